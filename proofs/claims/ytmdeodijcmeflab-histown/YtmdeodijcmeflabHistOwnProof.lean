/- Whatever the spans, and those that are left: what First and Cut tell shares no memory with what they were lent, nor what First tells with what it tells again (shutterlaw05.HistOwn is true for every input). -/
import Derived.Test.YtmdeodijcmeflabRows
import Derived.WalkKit
import Derived.ProofKit
import Derived.OpenShut
import Derived.JoinedCond
import Derived.Carry
import Derived.Lib.SmallJoins
import Derived.Test.YtmdeodijcmeflabHOwn
import Derived.Test.YtmdeodijcmeflabHLive
import Derived.Test.YtmdeodijcmeflabHArgs2
namespace Go.Proofs.Ytmdeodijcmeflab.histOwn
open Go.ChangeShapes Go.WideShapes Go.ChangeAt Go.RowKit Go.Joins
set_option linter.unusedVariables false

theorem own : ownKnob Try.prog.godebug = none := by kernel_rfl
theorem laidOut : laidOutB Try.prog = true := by kernel_rfl

set_option maxRecDepth 100000 in
set_option maxHeartbeats 16000000 in
theorem walk (pl pb : Option Addr) (cl cb : Nat) (l : List Sp) (bs : List Bool) (w : World) (hL : SReads w pl l) (hB : BReads w pb bs) (kb : bs.length ≤ cb) (bl : l.length ≤ 4398046511000) :
    Calls Try.prog 5 #[.slice pl l.length cl, .slice pb bs.length cb] w fun e w' => e = .returned (.bool true) ∧ Below w.heap.size w w' := by
  have HL := keepH hL
  have HB := keepH hB
  have KB := keepH kb
  clear hL hB kb
  go_enter Try.func5, Try.ntmps5
  go_wp2_with fail
  refine (r_lent pl cl l _ HL.out (by omega)).mono ?_
  rintro e W1 ⟨g, cap, rfl, hg, hLt, C1⟩
  have D1 := keepH C1
  have LT1 := keepH hLt
  have HG1 : Hid (g < W1.heap.size) := hLt.get.2
  clear C1 hLt hg
  go_wp2_with fail
  refine (h_cut (some ⟨g, 0, none⟩) cap 1152921504606846976 l _ (LT1.out.chg ((Chg.refl (fun _ => False) W1).alloc _) (fun x => x)).reads (by omega)).mono ?_
  rintro e W2 ⟨a, rfl, RA, NA, C2⟩
  obtain ⟨m, hm⟩ : ∃ m, m = (cutN l 1152921504606846976 l.length).length := ⟨_, rfl⟩
  have hml : m ≤ l.length := by rw [hm]; exact cutN_le _ _ _
  rw [← hm] at RA
  obtain ⟨pa, ca, rfl⟩ := slice_of RA
  obtain ⟨fl, hfl⟩ : ∃ fl, fl = (firstsN l bs l.length).length := ⟨_, rfl⟩
  have HFL := keepH hfl
  have hfll : fl ≤ l.length := by rw [hfl]; exact firstsN_le _ _ _
  have HN : Hid (∀ b, (Value.slice pa m ca).ownBlock = some b → W1.heap.size ≤ b) := fun b hb => by have := NA b hb; simp at this; omega
  have HI : Hid (OI W1.heap.size w W2 g cap W1.heap.size m 0 fl (.slice pa m ca) l) :=
    ⟨⟨_, _, _, (BKept.start W1 W1.heap.size (Nat.le_refl _)).quiet C2, fun j hj => by omega⟩, (LT1.out.chg ((Chg.refl (fun _ => False) W1).alloc _) (fun x => x)).chg C2 (fun x => x), ⟨_, RA⟩, ((D1.out.mono (fun _ _ x => x.elim)).alloc _).trans C2 (fun _ _ x => x) (fun _ _ x => x.elim)⟩
  have HSZ : Hid (w.heap.size ≤ W1.heap.size) := D1.out.size
  clear RA NA C2 hm hfl
  go_wp2_with fail
  go_loopw [8] (fun s wr => ∃ i : Nat, i ≤ 2 ∧ s = .int .i64 (i : Int) ∧ Hid (OI W1.heap.size w wr g cap W1.heap.size m i fl (.slice pa m ca) l)) (fun s _ => 2 - (intOf s).toNat)
  case atStart => exact ⟨0, by omega, rfl, HI⟩
  case round =>
    obtain ⟨i, hi, rfl, HK⟩ := hrel
    by_cases hlt : i < 2
    · have t1 : (i : Int) < 2 := by omega
      go_wp2_with fail
      refine (h_first (some ⟨g, 0, none⟩) pb cap cb l bs _ HK.out.lent.reads (HB.out.up HK.out.chg (fun b x => by have := HSZ.out; omega)) (by omega) KB.out).mono ?_
      rintro e W3 ⟨v, rfl, R3, N3, C3⟩
      rw [← HFL.out] at R3
      obtain ⟨pf, cf, rfl⟩ := slice_of R3
      have HQ := keepH (HK.out.quiet C3)
      have HR3 := keepH R3
      have hsz : ∀ b, (Value.slice pf fl cf).ownBlock = some b → wr.heap.size ≤ b := N3
      have HNN := keepH hsz
      obtain ⟨vv, len, sv, hb0, hlen⟩ := HK.out.book
      have HB0 := keepH hb0
      have HB1 := keepH (hb0.quiet C3)
      have HLEN := keepH hlen
      clear R3 N3 C3 hsz hb0 hlen
      go_wp2_with fail
      refine (take_g W1.heap.size W1.heap.size i fl cf pf vv len sv _ _ (by omega) HB1.out HR3.out (fun j b hj h1 h2 => by
        obtain ⟨xs, hx⟩ := HB0.out.rows j hj
        have := row_lt hx b h1
        have := HNN.out b h2
        omega) (fun b h1 => by
        have := HNN.out b h1
        have := HB0.out.lt
        omega)).mono ?_
      rintro e W4 ⟨rfl, ⟨sv', hb'⟩, C4⟩
      have HN4 := keepH (HQ.out.took HG1.out HB1.out HLEN.out hb' C4)
      clear hb' C4
      go_wp2_with fail
      go_roundw
      case rel => exact ⟨i + 1, by omega, by first | rfl | go_num, HN4⟩
      case measure => simp [intOf]; omega
    · obtain rfl : i = 2 := by omega
      have t1 : ¬ ((2 : Nat) : Int) < 2 := by omega
      go_wp2_with fail
      go_loopw [9] (fun s wx => ∃ k : Nat, k ≤ m ∧ s = .int .i64 (k : Int) ∧ Hid (OI W1.heap.size w wx g cap W1.heap.size m 2 fl (.slice pa m ca) l)) (fun s _ => m - (intOf s).toNat)
      case atStart => exact ⟨0, by omega, rfl, HK⟩
      case round =>
        obtain ⟨wx, hwx⟩ : ∃ wx, wx = wr := ⟨_, rfl⟩
        rw [← hwx] at hrel ⊢
        clear hwx
        obtain ⟨k, hk, rfl, HJ⟩ := hrel
        by_cases hlt : k < m
        · have t2 : (k : Int) < (m : Int) := by omega
          obtain ⟨xs, hx⟩ := HJ.out.row
          obtain ⟨ga, cg, hga⟩ := slice_pos hx (by omega)
          simp only [Value.slice.injEq, true_and] at hga
          obtain ⟨rfl, rfl⟩ := hga
          obtain ⟨y, hy⟩ : ∃ y, xs[k * 4]? = some y := ⟨xs[k * 4]'(by have := hx.1; omega), List.getElem?_eq_getElem _⟩
          have c3 : wx.cell? ⟨ga, k * 4, none⟩ = some y := by rw [← hy]; exact World.ownsRow.cellAt hx (k * 4) (by omega)
          obtain ⟨cur, hcur⟩ := row_block hx ga rfl
          have fz : wx.frozen? ⟨ga, k * 4, none⟩ = false := free_of hcur _
          have HN5 : Hid (OI W1.heap.size w (wx.setCell ⟨ga, k * 4, none⟩ (.int .i64 99)) g cap W1.heap.size m 2 fl (.slice (some ⟨ga, 0, none⟩) m ca) l) := HJ.out.put HG1.out (HN.out ga rfl) _
          clear hx hy hcur
          go_wp2_with fail
          go_roundw
          case rel => exact ⟨k + 1, by omega, by first | rfl | go_num, HN5⟩
          case measure => simp [intOf]; omega
        · obtain rfl : k = m := by omega
          have t2 : ¬ (k : Int) < (k : Int) := by omega
          go_wp2_with fail
          refine (h_live _).mono ?_
          rintro e W5 ⟨rfl, C5⟩
          have HQ5 := keepH (HJ.out.quiet C5)
          clear C5
          obtain ⟨vv, len, sv, hb0, hlen⟩ := HQ5.out.book
          have HB0 := keepH hb0
          have HLEN := keepH hlen
          clear hb0 hlen
          go_wp2_with fail
          refine (aloneAll_g W1.heap.size W1.heap.size 2 vv len sv _ (by omega) (by omega) HB0.out (fun j hj => by rw [HLEN.out j hj]; omega)).mono ?_
          rintro e W6 ⟨rfl, C6⟩
          have D6 : Hid (Chg (fun b => W1.heap.size ≤ b) w W6) := HQ5.out.chg.trans C6 (fun _ _ x => x) (fun _ _ x => x)
          have LT6 := keepH (HQ5.out.lent.chg C6 (by have := HG1.out; omega))
          clear C6
          go_wp2_with fail
          refine (r_kept pl cl g cap l _ (HL.out.up D6.out (fun b x => by have := HSZ.out; omega)) LT6.out (by omega)).mono ?_
          rintro e W7 ⟨rfl, C7⟩
          have D7 : Hid (Chg (fun b => W1.heap.size ≤ b) w W7) := D6.out.trans C7 (fun _ _ x => x) (fun _ _ x => x.elim)
          clear C7
          go_wp2_with fail
          go_ret
          exact ⟨by simp, (D7.out.mono (G := fun k => w.heap.size ≤ k) (fun b _ x => by have := HSZ.out; omega)).below (Nat.le_refl _)⟩

set_option maxRecDepth 100000 in
theorem lifted (os : Os) (started : os.Started) (H : Type) (enc : TypeId × Value → H) :
    ReturnsInHanded {} Try.checked os 5 .any (Rows.histOwnSpec.pre6 enc Try.prog Try.f5 Rows.histOwnRow.domain false) (Rows.histOwnSpec.post enc Try.prog Try.f5 false true false false) := by
  refine returnsInHanded_of_change_sized (C := Try.checked) own started (by kernel_rfl) Try.func5
    (ChangeSpec.witness6 (enc := enc) (C := Try.checked) false ⟨#[], #[.slice none 0 0, .slice none 0 0], []⟩ 8 (by kernel_rfl) (by kernel_rfl) (by kernel_rfl) (by kernel_rfl)) ?_
  intro W base args ds gs before hval0 hW hcnd hsz0 _
  have hval : ∀ (j : Nat) t v, Try.f5.params[j]? = some t → args[j]? = some v → Value.okWide Try.prog W .any base t v := hval0
  have hsz : (DataW.weightsEach Try.prog (Try.f5.params.toList ++ Rows.histOwnSpec.plain.varTypes Try.prog) (ds ++ gs)).all (· ≤ reachBytes) = true := hsz0
  clear hsz0
  have hW' := hW
  obtain ⟨p, q, hA0, hV, rfl, hfz, hnd⟩ := hW
  have hA : DataW.TrodAll enc Try.prog W 0 (fun _ => true) true Try.f5.params.toList args.toList ds p := hA0
  rw [Try.params5] at hA hval hsz
  obtain ⟨v0, vs0, d0, ds0, p0, q0, hargs, rfl, rfl, h0, r0⟩ := trodAll_cons hA
  obtain ⟨v1, vs1, d1, ds1, p1, q1, rfl, rfl, rfl, h1, r1⟩ := trodAll_cons r0
  obtain ⟨rfl, rfl, rfl⟩ := trodAll_nil r1
  obtain rfl : args = #[v0, v1] := by cases args; simp_all
  obtain ⟨rfl, rfl⟩ := trodVars_none hV
  have k0 := h0
  have lt0 : ∀ x ∈ p0, x.block < W.heap.size := by obtain ⟨m, hm⟩ := k0; exact DataW.trod_lt m _ _ _ hm
  have k1 := h1
  have lt1 : ∀ x ∈ p1, x.block < W.heap.size := by obtain ⟨m, hm⟩ := k1; exact DataW.trod_lt m _ _ _ hm
  obtain ⟨pl, nl, cl, rfl⟩ := okWide_slice Try.underlying22 (hval 0 22 v0 rfl rfl)
  have sl := slice_size Try.underlying22 h0 hsz (j := 0) rfl rfl
  rw [bytesSpan] at sl
  obtain ⟨l, hll, okl, hL⟩ := spans_open h0
  obtain ⟨pb, nb, cb, rfl⟩ := okWide_slice Try.underlying26 (hval 1 26 v1 rfl rfl)
  have kb := slice_cap Try.underlying26 h1
  obtain ⟨bs, hlb, _, hB⟩ := bools_open h1
  subst hll
  subst hlb
  have bl : l.length ≤ 4398046511000 := by simp only [reachBytes] at sl; omega
  clear hA0 hval0
  refine (walk pl pb cl cb l bs W hL hB kb bl).mono fun e W' ⟨he, bel⟩ => ?_
  subst he
  exact ⟨_, rfl, _, _, _, [], _, [], hW', trodAll_mk1 (shut_bool Try.underlying4 _), (trodAll_cons_mk (Below.trod laidOut (by kernel_rfl) (of_decide_eq_true (by kernel_rfl)) k0 bel lt0) (trodAll_cons_mk (Below.trod laidOut (by kernel_rfl) (of_decide_eq_true (by kernel_rfl)) k1 bel lt1) trodAll_mk0)), rfl, bel.frame _, fun h => by cases h⟩

theorem over : Rows.histOwnRow.holds Try.pinned (OpenSpec.ofChange Rows.histOwnSpec) :=
  OpenClaim.holds_of_wide 5 Try.f5 rfl rfl rfl rfl rfl rfl rfl ⟨rfl, rfl, rfl, rfl, rfl⟩ rfl rfl rfl rfl rfl (by kernel_rfl) Try.func5 (by kernel_rfl)
    (of_decide_eq_true (by kernel_rfl)) (by unfold Func.isWrapper; first | (rw [if_pos (by decide +kernel)]; kernel_rfl) | (rw [if_neg (by decide +kernel)]; exact ⟨rfl, rfl⟩))
    (fun os started H enc _ => lifted os started H enc)
end Go.Proofs.Ytmdeodijcmeflab.histOwn
namespace Go.Proofs.Ytmdeodijcmeflab
theorem histOwn_holds : Rows.HistOwnSaid := histOwn.over
end Go.Proofs.Ytmdeodijcmeflab
