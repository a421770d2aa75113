/- Whatever spans and order: hist.Ahead, hist.Keeps and hist.Width answer as the document does, and what was lent stays (shutterlaw05.HistOrders is true for every input). -/
import Derived.Test.YtaigpbbehlofbaaRows
import Derived.WalkKit
import Derived.ProofKit
import Derived.OpenShut
import Derived.JoinedCond
import Derived.Carry
import Derived.Lib.SmallJoins
import Derived.Test.YtaigpbbehlofbaaHHand
import Derived.Test.YtaigpbbehlofbaaHRKeeps
import Derived.Test.YtaigpbbehlofbaaHKeeps
import Derived.Test.YtaigpbbehlofbaaHLent
import Derived.Test.YtaigpbbehlofbaaHLive
import Derived.Test.YtaigpbbehlofbaaHArgs2
namespace Go.Proofs.Ytaigpbbehlofbaa.histOrders
open Go.ChangeShapes Go.WideShapes Go.ChangeAt Go.RowKit Go.Joins
set_option linter.unusedVariables false

theorem own : ownKnob Try.prog.godebug = none := by kernel_rfl
theorem laidOut : laidOutB Try.prog = true := by kernel_rfl

set_option maxRecDepth 100000 in
set_option maxHeartbeats 16000000 in
theorem walk (pl po : Option Addr) (cl co : Nat) (l : List Sp) (o : List Int) (w : World) (hL : SReads w pl l) (hO : IReads w po o) (bl : l.length ≤ 4398046511000) (bo : o.length ≤ 17592186043904) :
    Calls Try.prog 3 #[.slice pl l.length cl, .slice po o.length co] w fun e w' => e = .returned (.bool true) ∧ Below w.heap.size w w' := by
  have HL := keepH hL
  have HO := keepH hO
  have bl2 : l.length ≤ 4398046511104 := by omega
  have bo2 : o.length ≤ 17592186044416 := by omega
  clear hL hO
  go_enter Try.func3, Try.ntmps3
  go_wp2_with fail
  refine (r_lent pl cl l _ HL.out bl).mono ?_
  rintro e W1 ⟨g, cap, rfl, hg1, L1, C1⟩
  have HO1 := keepH (HO.out.chg C1 (fun _ _ x => x))
  have HL1 := keepH L1
  have HC1 := keepH C1
  clear L1 C1
  go_wp2_with fail
  refine (hand_ints po co o _ HO1.out bo).mono ?_
  rintro e W2 ⟨gi, rfl, hg2, hg3, H2, C2⟩
  have HH2 := keepH H2
  have HL2 := keepH (HL1.out.chg C2 (fun x => x))
  have HC2 : Hid (Chg (fun _ => False) w W2) := HC1.out.trans C2 (fun _ _ x => x) (fun _ _ x => x)
  have HG2 := keepH hg3
  clear H2 C2 hg1 hg2 hg3
  obtain ⟨n, hn⟩ : ∃ n, n = l.length := ⟨_, rfl⟩
  obtain ⟨no, hno⟩ : ∃ no, no = o.length := ⟨_, rfl⟩
  have HN := keepH hn
  have HNO := keepH hno
  rw [← hn, ← hno]
  have hnb : n ≤ 4398046511104 := by omega
  clear hn hno
  go_wp2_with fail
  go_loopw [7] (fun s7 wr => ∃ i : Nat, i ≤ n ∧ s7 = .int .i64 (i : Int) ∧ Hid (Chg (fun _ => False) W2 wr)) (fun s7 _ => n - (intOf s7).toNat)
  case atStart => exact ⟨0, by omega, rfl, keepH (Chg.refl _ _)⟩
  case round =>
    obtain ⟨wi, hwi⟩ : ∃ wi, wi = wr := ⟨_, rfl⟩
    rw [← hwi] at hrel ⊢
    clear hwi
    obtain ⟨i, hi, rfl, HI⟩ := hrel
    have HCW : Hid (Chg (fun _ => False) w wi) := HC2.out.trans HI.out (fun _ _ x => x) (fun _ _ x => x)
    have w1' : IntKind.i64.wrap ((i : Int) + 1) = (i : Int) + 1 := by rw [IntKind.wrap_i64]; omega
    by_cases hlt : i + 1 < n
    · have t1 : (i : Int) + 1 < (n : Int) := by omega
      have t0 : (i : Int) < (n : Int) := by omega
      have i0 : (0 : Int) ≤ (i : Int) + 1 := by omega
      have tN : ((i : Int) + 1).toNat = i + 1 := by omega
      obtain ⟨s, hs⟩ : ∃ s, l[i]? = some s := ⟨l[i]'(by have := HN.out; omega), List.getElem?_eq_getElem _⟩
      obtain ⟨u, hu⟩ : ∃ u, l[i + 1]? = some u := ⟨l[i + 1]'(by have := HN.out; omega), List.getElem?_eq_getElem _⟩
      have HPX := keepH (HL.out.chg HCW.out (fun _ _ x => x))
      obtain ⟨bk, off, hq, _, a0, a1, a2, a3⟩ := HPX.out.get i s hs
      obtain ⟨bk1, off1, hq1, _, b0, b1, b2, b3⟩ := HPX.out.get (i + 1) u hu
      rw [hq] at hq1
      simp only [Option.some.injEq, Addr.mk.injEq] at hq1
      obtain ⟨rfl, rfl, -⟩ := hq1
      subst hq
      have K6 : Hid (∀ (a b : Sp) (w5 : World), Calls Try.prog 6 #[.agg #[.int .i64 a.th, .int .i64 a.ix, .int .i64 a.fr, .int .i64 a.to], .agg #[.int .i64 b.th, .int .i64 b.ix, .int .i64 b.fr, .int .i64 b.to]] w5 fun e W' => e = .returned (.bool (aheadB a b)) ∧ Chg (fun _ => False) w5 W') := fun a b w5 => h_ahead _ _ _ _ _ _ _ _ w5
      have K7 : Hid (∀ (a b : Sp) (w5 : World), Calls Try.prog 7 #[.agg #[.int .i64 a.th, .int .i64 a.ix, .int .i64 a.fr, .int .i64 a.to], .agg #[.int .i64 b.th, .int .i64 b.ix, .int .i64 b.fr, .int .i64 b.to]] w5 fun e W' => e = .returned (.bool (aheadB a b)) ∧ Chg (fun _ => False) w5 W') := fun a b w5 => r_ahead _ _ _ _ _ _ _ _ w5
      have HSK : Hid (∀ wa wb, Chg (fun _ => False) wa wb → (wa.cell? ⟨bk, off + i * 4, none⟩ = some (.int .i64 s.th) ∧ wa.cell? ⟨bk, off + i * 4 + 1, none⟩ = some (.int .i64 s.ix) ∧ wa.cell? ⟨bk, off + i * 4 + 2, none⟩ = some (.int .i64 s.fr) ∧ wa.cell? ⟨bk, off + i * 4 + 3, none⟩ = some (.int .i64 s.to) ∧ wa.cell? ⟨bk, off + (i + 1) * 4, none⟩ = some (.int .i64 u.th) ∧ wa.cell? ⟨bk, off + (i + 1) * 4 + 1, none⟩ = some (.int .i64 u.ix) ∧ wa.cell? ⟨bk, off + (i + 1) * 4 + 2, none⟩ = some (.int .i64 u.fr) ∧ wa.cell? ⟨bk, off + (i + 1) * 4 + 3, none⟩ = some (.int .i64 u.to)) → (wb.cell? ⟨bk, off + i * 4, none⟩ = some (.int .i64 s.th) ∧ wb.cell? ⟨bk, off + i * 4 + 1, none⟩ = some (.int .i64 s.ix) ∧ wb.cell? ⟨bk, off + i * 4 + 2, none⟩ = some (.int .i64 s.fr) ∧ wb.cell? ⟨bk, off + i * 4 + 3, none⟩ = some (.int .i64 s.to) ∧ wb.cell? ⟨bk, off + (i + 1) * 4, none⟩ = some (.int .i64 u.th) ∧ wb.cell? ⟨bk, off + (i + 1) * 4 + 1, none⟩ = some (.int .i64 u.ix) ∧ wb.cell? ⟨bk, off + (i + 1) * 4 + 2, none⟩ = some (.int .i64 u.fr) ∧ wb.cell? ⟨bk, off + (i + 1) * 4 + 3, none⟩ = some (.int .i64 u.to))) := fun wa wb c h => ⟨cell_chg c h.1 (fun x => x), cell_chg c h.2.1 (fun x => x), cell_chg c h.2.2.1 (fun x => x), cell_chg c h.2.2.2.1 (fun x => x), cell_chg c h.2.2.2.2.1 (fun x => x), cell_chg c h.2.2.2.2.2.1 (fun x => x), cell_chg c h.2.2.2.2.2.2.1 (fun x => x), cell_chg c h.2.2.2.2.2.2.2 (fun x => x)⟩
      have hS0 : wi.drew.cell? ⟨bk, off + i * 4, none⟩ = some (.int .i64 s.th) ∧ wi.drew.cell? ⟨bk, off + i * 4 + 1, none⟩ = some (.int .i64 s.ix) ∧ wi.drew.cell? ⟨bk, off + i * 4 + 2, none⟩ = some (.int .i64 s.fr) ∧ wi.drew.cell? ⟨bk, off + i * 4 + 3, none⟩ = some (.int .i64 s.to) ∧ wi.drew.cell? ⟨bk, off + (i + 1) * 4, none⟩ = some (.int .i64 u.th) ∧ wi.drew.cell? ⟨bk, off + (i + 1) * 4 + 1, none⟩ = some (.int .i64 u.ix) ∧ wi.drew.cell? ⟨bk, off + (i + 1) * 4 + 2, none⟩ = some (.int .i64 u.fr) ∧ wi.drew.cell? ⟨bk, off + (i + 1) * 4 + 3, none⟩ = some (.int .i64 u.to) := ⟨a0, a1, a2, a3, b0, b1, b2, b3⟩
      have HHI := keepH (HI.out.trans (chg0_drew wi) (H := fun _ => False) (fun _ _ x => x) (fun _ _ x => x))
      clear hs hu a0 a1 a2 a3 b0 b1 b2 b3
      go_upto_region 5 with fail
      go_cut [62] from 19 to 62 (fun s62 wx => s62 = .bool false ∧ Hid (Chg (fun _ => False) W2 wx))
      case first =>
        have hcc := HHI
        go_region_held3 (fun w' => w'.cell? ⟨bk, off + i * 4, none⟩ = some (.int .i64 s.th) ∧ w'.cell? ⟨bk, off + i * 4 + 1, none⟩ = some (.int .i64 s.ix) ∧ w'.cell? ⟨bk, off + i * 4 + 2, none⟩ = some (.int .i64 s.fr) ∧ w'.cell? ⟨bk, off + i * 4 + 3, none⟩ = some (.int .i64 s.to) ∧ w'.cell? ⟨bk, off + (i + 1) * 4, none⟩ = some (.int .i64 u.th) ∧ w'.cell? ⟨bk, off + (i + 1) * 4 + 1, none⟩ = some (.int .i64 u.ix) ∧ w'.cell? ⟨bk, off + (i + 1) * 4 + 2, none⟩ = some (.int .i64 u.fr) ∧ w'.cell? ⟨bk, off + (i + 1) * 4 + 3, none⟩ = some (.int .i64 u.to)) (first | exact hS5 | exact hS0)
          (first | (go_at_call 6; refine (K6.out _ _ _).mono ?_; rintro e w5 ⟨rfl, C5⟩; have hS5 := HSK.out _ _ C5 (by assumption); replace hcc := keepH (hcc.out.trans C5 (H := fun _ => False) (fun _ _ x => x) (fun _ _ x => x)); clear C5) | (go_at_call 7; refine (K7.out _ _ _).mono ?_; rintro e w5 ⟨rfl, C5⟩; have hS5 := HSK.out _ _ C5 (by assumption); replace hcc := keepH (hcc.out.trans C5 (H := fun _ => False) (fun _ _ x => x) (fun _ _ x => x)); clear C5))
        all_goals (try go_wp2_with fail)
        all_goals go_meet
        all_goals (exact ⟨by first | rfl | trivial, hcc⟩)
      case rest =>
        obtain ⟨wx, hwx⟩ : ∃ wx, wx = wc := ⟨_, rfl⟩
        rw [← hwx] at hcut ⊢
        clear hwx
        obtain ⟨rfl, HX⟩ := hcut
        go_wp2_with fail
        go_roundw
        case rel => first | exact ⟨i + 1, by omega, (by first | rfl | trivial | go_num), HX⟩ | ((repeat apply Exists.intro); refine ⟨?_, rfl⟩; exact ⟨i + 1, by omega, (by first | rfl | trivial | go_num), HX⟩)
        case measure => simp [intOf]; omega
    · have t1 : ¬ (i : Int) + 1 < (n : Int) := by omega
      have HL3 := keepH (HL2.out.chg HI.out (fun x => x))
      have HH3 := keepH (HH2.out.chg HI.out (fun x => x))
      have HG3 : Hid (gi < wi.heap.size) := Nat.lt_of_lt_of_le HG2.out HI.out.size
      go_wp2_with fail
      refine (h_live _).mono ?_
      rintro e w3 ⟨rfl, C3⟩
      have HL4 := keepH (HL3.out.chg C3 (fun x => x))
      have HH4 := keepH (HH3.out.chg C3 (fun x => x))
      have HG4 : Hid (gi < w3.heap.size) := Nat.lt_of_lt_of_le HG3.out C3.size
      have HC4 : Hid (Chg (fun _ => False) w w3) := HCW.out.trans C3 (fun _ _ x => x) (fun _ _ x => x)
      have KK := h_keeps (some ⟨g, 0, none⟩) (some ⟨gi, 0, none⟩) cap (o.length + 9) l o w3 HL4.out.reads (IReads.handed HH4.out HG4.out) bl2 bo2
      rw [← HN.out, ← HNO.out] at KK
      have HKK := keepH KK
      clear C3 KK
      go_wp2_with fail
      refine HKK.out.mono ?_
      rintro e w4 ⟨v4, rfl, hv4, C4⟩
      have HL5 := keepH (HL4.out.chg C4 (fun x => x))
      have HH5 := keepH (HH4.out.chg C4 (fun x => x))
      have HG5 : Hid (gi < w4.heap.size) := Nat.lt_of_lt_of_le HG4.out C4.size
      have HC5 : Hid (Chg (fun _ => False) w w4) := HC4.out.trans C4 (fun _ _ x => x) (fun _ _ x => x)
      have KR := r_keeps pl po cl co l o w4 (HL.out.chg HC5.out (fun _ _ x => x)) (HO.out.chg HC5.out (fun _ _ x => x)) bl2 bo2
      rw [← HN.out, ← HNO.out] at KR
      have HKR := keepH KR
      have HV4 := keepH hv4
      clear C4 KR hv4
      go_wp2_with fail
      refine HKR.out.mono ?_
      rintro e w5 ⟨v5, rfl, hv5, C5⟩
      have HL6 := keepH (HL5.out.chg C5 (fun x => x))
      have HH6 := keepH (HH5.out.chg C5 (fun x => x))
      have HG6 : Hid (gi < w5.heap.size) := Nat.lt_of_lt_of_le HG5.out C5.size
      have HC6 : Hid (Chg (fun _ => False) w w5) := HC5.out.trans C5 (fun _ _ x => x) (fun _ _ x => x)
      have hvv : ∃ B, v4 = .bool B ∧ v5 = .bool B := by
        rcases HV4.out with ⟨a, rfl⟩ | ⟨a, rfl⟩ <;> rcases hv5 with ⟨b, rfl⟩ | ⟨b, rfl⟩
        · exact ⟨true, rfl, rfl⟩
        · exact absurd a b
        · exact absurd b a
        · exact ⟨false, rfl, rfl⟩
      obtain ⟨B, e4, e5⟩ := hvv
      subst e4
      subst e5
      have KW := h_width (some ⟨g, 0, none⟩) cap l w5 HL6.out.reads bl2
      rw [← HN.out] at KW
      have HKW := keepH KW
      have HNX : Hid (∀ w6, Chg (fun _ => False) w5 w6 → Calls Try.prog 12 #[.slice pl n cl] w6 fun e W' => e = .returned (.int .i64 ((wOf (fun f => l.countP (atB f)) (begs l) : Nat) : Int)) ∧ Chg (fun _ => False) w6 W') := fun w6 c => by
        have e := r_width pl cl l w6 ((HL.out.chg HC6.out (fun _ _ x => x)).chg c (fun _ _ x => x)) bl2
        rw [← HN.out] at e
        exact e
      obtain ⟨wd, hwd⟩ : ∃ wd : Nat, wd = wOf (fun f => l.countP (atB f)) (begs l) := ⟨_, rfl⟩
      rw [← hwd] at HKW HNX
      clear C5 hv5 KW hwd
      cases B
      all_goals (go_wp2_with fail)
      all_goals (refine HKW.out.mono ?_)
      all_goals (rintro e w6 ⟨rfl, C7⟩)
      all_goals (have HL7 := keepH (HL6.out.chg C7 (fun x => x)))
      all_goals (have HH7 := keepH (HH6.out.chg C7 (fun x => x)))
      all_goals (have HG7 : Hid (gi < w6.heap.size) := Nat.lt_of_lt_of_le HG6.out C7.size)
      all_goals (have HC7 : Hid (Chg (fun _ => False) w w6) := HC6.out.trans C7 (fun _ _ x => x) (fun _ _ x => x))
      all_goals (have HKX := keepH (HNX.out w6 C7))
      all_goals (clear C7)
      all_goals (go_wp2_with fail)
      all_goals (refine HKX.out.mono ?_)
      all_goals (rintro e w7 ⟨rfl, C8⟩)
      all_goals (have HL8 := keepH (HL7.out.chg C8 (fun x => x)))
      all_goals (have HH8 := keepH (HH7.out.chg C8 (fun x => x)))
      all_goals (have HG8 : Hid (gi < w7.heap.size) := Nat.lt_of_lt_of_le HG7.out C8.size)
      all_goals (have HC8 : Hid (Chg (fun _ => False) w w7) := HC7.out.trans C8 (fun _ _ x => x) (fun _ _ x => x))
      all_goals (have KP := r_kept pl cl g cap l w7 (HL.out.chg HC8.out (fun _ _ x => x)) HL8.out bl)
      all_goals (rw [← HN.out] at KP)
      all_goals (have HKP := keepH KP)
      all_goals (clear C8 KP)
      all_goals (go_wp2_with fail)
      all_goals (refine HKP.out.mono ?_)
      all_goals (rintro e w8 ⟨rfl, C9⟩)
      all_goals (have HH9 := keepH (HH8.out.chg C9 (fun x => x)))
      all_goals (have HG9 : Hid (gi < w8.heap.size) := Nat.lt_of_lt_of_le HG8.out C9.size)
      all_goals (have HC9 : Hid (Chg (fun _ => False) w w8) := HC8.out.trans C9 (fun _ _ x => x) (fun _ _ x => x))
      all_goals (have KI := kept_ints gi po co o w8 HH9.out HG9.out (HO.out.chg HC9.out (fun _ _ x => x)) bo)
      all_goals (rw [← HNO.out] at KI)
      all_goals (have HKI := keepH KI)
      all_goals (clear C9 KI)
      all_goals (go_wp2_with fail)
      all_goals (refine HKI.out.mono ?_)
      all_goals (rintro e w9 ⟨rfl, C10⟩)
      all_goals (have HC10 : Hid (Chg (fun _ => False) w w9) := HC9.out.trans C10 (fun _ _ x => x) (fun _ _ x => x))
      all_goals (clear C10)
      all_goals (go_wp2_with fail)
      all_goals go_ret
      all_goals (exact ⟨by simp, (HC10.out.mono (G := fun k => w.heap.size ≤ k) (fun _ _ x => x.elim)).below (Nat.le_refl _)⟩)

set_option maxRecDepth 100000 in
theorem lifted (os : Os) (started : os.Started) (H : Type) (enc : TypeId × Value → H) :
    ReturnsInHanded {} Try.checked os 3 .any (Rows.histOrdersSpec.pre6 enc Try.prog Try.f3 Rows.histOrdersRow.domain false) (Rows.histOrdersSpec.post enc Try.prog Try.f3 false true false false) := by
  refine returnsInHanded_of_change_sized (C := Try.checked) own started (by kernel_rfl) Try.func3
    (ChangeSpec.witness6 (enc := enc) (C := Try.checked) false ⟨#[], #[.slice none 0 0, .slice none 0 0], []⟩ 8 (by kernel_rfl) (by kernel_rfl) (by kernel_rfl) (by kernel_rfl)) ?_
  intro W base args ds gs before hval0 hW hcnd hsz0 _
  have hval : ∀ (j : Nat) t v, Try.f3.params[j]? = some t → args[j]? = some v → Value.okWide Try.prog W .any base t v := hval0
  have hsz : (DataW.weightsEach Try.prog (Try.f3.params.toList ++ Rows.histOrdersSpec.plain.varTypes Try.prog) (ds ++ gs)).all (· ≤ reachBytes) = true := hsz0
  clear hsz0
  have hW' := hW
  obtain ⟨p, q, hA0, hV, rfl, hfz, hnd⟩ := hW
  have hA : DataW.TrodAll enc Try.prog W 0 (fun _ => true) true Try.f3.params.toList args.toList ds p := hA0
  rw [Try.params3] at hA hval hsz
  obtain ⟨v0, vs0, d0, ds0, p0, q0, hargs, rfl, rfl, h0, r0⟩ := trodAll_cons hA
  obtain ⟨v1, vs1, d1, ds1, p1, q1, rfl, rfl, rfl, h1, r1⟩ := trodAll_cons r0
  obtain ⟨rfl, rfl, rfl⟩ := trodAll_nil r1
  obtain rfl : args = #[v0, v1] := by cases args; simp_all
  obtain ⟨rfl, rfl⟩ := trodVars_none hV
  have k0 := h0
  have lt0 : ∀ x ∈ p0, x.block < W.heap.size := by obtain ⟨m, hm⟩ := k0; exact DataW.trod_lt m _ _ _ hm
  have k1 := h1
  have lt1 : ∀ x ∈ p1, x.block < W.heap.size := by obtain ⟨m, hm⟩ := k1; exact DataW.trod_lt m _ _ _ hm
  obtain ⟨pl, nl, cl, rfl⟩ := okWide_slice Try.underlying22 (hval 0 22 v0 rfl rfl)
  have sl := slice_size Try.underlying22 h0 hsz (j := 0) rfl rfl
  rw [bytesSpan] at sl
  obtain ⟨l, hll, okl, hL⟩ := spans_open h0
  obtain ⟨po, no, co, rfl⟩ := okWide_slice Try.underlying23 (hval 1 23 v1 rfl rfl)
  have so := slice_size Try.underlying23 h1 hsz (j := 1) rfl rfl
  rw [bytesInt] at so
  obtain ⟨o, hlo, oko, hO⟩ := ints_open h1
  subst hll
  subst hlo
  have bl : l.length ≤ 4398046511000 := by simp only [reachBytes] at sl; omega
  have bo : o.length ≤ 17592186043904 := by simp only [reachBytes] at so; omega
  clear hA0 hval0
  refine (walk pl po cl co l o W hL hO bl bo).mono fun e W' ⟨he, bel⟩ => ?_
  subst he
  exact ⟨_, rfl, _, _, _, [], _, [], hW', trodAll_mk1 (shut_bool Try.underlying4 _), (trodAll_cons_mk (Below.trod laidOut (by kernel_rfl) (of_decide_eq_true (by kernel_rfl)) k0 bel lt0) (trodAll_cons_mk (Below.trod laidOut (by kernel_rfl) (of_decide_eq_true (by kernel_rfl)) k1 bel lt1) trodAll_mk0)), rfl, bel.frame _, fun h => by cases h⟩

theorem over : Rows.histOrdersRow.holds Try.pinned (OpenSpec.ofChange Rows.histOrdersSpec) :=
  OpenClaim.holds_of_wide 3 Try.f3 rfl rfl rfl rfl rfl rfl rfl ⟨rfl, rfl, rfl, rfl, rfl⟩ rfl rfl rfl rfl rfl (by kernel_rfl) Try.func3 (by kernel_rfl)
    (of_decide_eq_true (by kernel_rfl)) (by unfold Func.isWrapper; first | (rw [if_pos (by decide +kernel)]; kernel_rfl) | (rw [if_neg (by decide +kernel)]; exact ⟨rfl, rfl⟩))
    (fun os started H enc _ => lifted os started H enc)
end Go.Proofs.Ytaigpbbehlofbaa.histOrders
namespace Go.Proofs.Ytaigpbbehlofbaa
theorem histOrders_holds : Rows.HistOrdersSaid := histOrders.over
end Go.Proofs.Ytaigpbbehlofbaa
