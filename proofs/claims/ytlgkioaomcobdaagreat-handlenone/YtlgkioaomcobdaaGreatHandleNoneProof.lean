/- Wherever slots are said to be, whatever the handle and the stamp: an Open and a Close that are nil do nothing and tell ErrNil, no memory has no handles that hold, an Open on a nil view ends with ErrHandle and a Close with ErrStale, and an Open of a handle makes one access just if the handle is that of a slot (shutterlaw14.HandleNone is true for every input). -/
import Derived.Test.YtlgkioaomcobdaaGreatRows
import Derived.WalkKit
import Derived.ProofKit
import Derived.OpenShut
import Derived.JoinedCond
import Derived.Carry
import Derived.Lib.SmallJoins
import Derived.Test.YtlgkioaomcobdaaGreatHf
namespace Go.Proofs.YtlgkioaomcobdaaGreat.handleNone
open Go.ChangeShapes Go.WideShapes Go.ChangeAt Go.RowKit Go.Joins Go.Shelf
set_option linter.unusedVariables false

theorem own : ownKnob Tryz.prog.godebug = none := by kernel_rfl
theorem laidOut : laidOutB Tryz.prog = true := by kernel_rfl

set_option maxRecDepth 100000 in
set_option maxHeartbeats 8000000 in
theorem walk (cam fst mst k st : Nat) (cnt : Int) (w : World) (hk : k < 18446744073709551616) :
    Calls Tryz.prog 3 #[.agg #[.int .u64 (cam : Int), .int .u64 (fst : Int), .int .i64 cnt, .int .u64 (mst : Int)], .int .u64 (k : Int), .int .u64 (st : Int)] w fun e w' => e = .returned (.bool true) ∧ Below w.heap.size w w' := by
  obtain ⟨kn, a, g, hkn, ha, hg, hA⟩ := na_any cam fst mst k cnt hk
  have HKN := keepH hkn
  have HA := keepH hA
  have HWH := keepH (fun W => where_any cam fst mst k cnt hk W)
  rw [← hkn] at HWH
  clear hkn hA
  obtain ⟨w0, hw0⟩ : ∃ w0, w0 = w.alloc (.cells #[.int .u64 (cam : Int), .int .u64 (fst : Int), .int .i64 cnt, .int .u64 (mst : Int)] 24) := ⟨_, rfl⟩
  have T0 : Hid (Blk w0 w.heap.size 24 [.int .u64 (cam : Int), .int .u64 (fst : Int), .int .i64 cnt, .int .u64 (mst : Int)]) := by rw [hw0]; exact heap_alloc_new _ _
  have HC0 : Hid (Chg (fun _ => False) w w0) := by rw [hw0]; exact (Chg.refl _ _).alloc _
  go_enter Tryz.func3, Tryz.ntmps3
  go_upto_region 1 with fail
  rw [← hw0]
  clear hw0
  go_wp2_with fail
  refine (live_all _).mono ?_
  rintro e w1 ⟨rfl, C1⟩
  have T1 := keepH (T0.out.chg C1 (fun x => x))
  have HC1 := keepH (HC0.out.f C1)
  clear C1 T0 HC0
  go_wp2_with fail
  refine (m_new 128 w1 (by omega)).mono ?_
  rintro e w2 ⟨rfl, M2, B2, C2, S2⟩
  have HM2 := keepH M2
  have T2 := keepH (T1.out.chg C2 (fun x => x))
  have HC2 := keepH (HC1.out.f C2)
  clear M2 B2 C2 S2 T1 HC1
  go_wp2_with fail
  refine (m_view _ w1.heap.size 0 _ HM2.out).mono ?_
  rintro e w' ⟨rfl, rfl⟩
  obtain ⟨w3, hw3⟩ : ∃ w3, w3 = w2.alloc (.cells #[.iface 61 (.pointer (some ⟨w1.heap.size, 0, none⟩)), .int .i64 0, .int .i64 0] 64) := ⟨_, rfl⟩
  have V3 : Hid (IsView w3 w2.heap.size w1.heap.size 0 0) := by rw [hw3]; exact heap_alloc_new _ _
  have T3 : Hid (Blk w3 w.heap.size 24 [.int .u64 (cam : Int), .int .u64 (fst : Int), .int .i64 cnt, .int .u64 (mst : Int)]) := by rw [hw3]; exact alloc_of T2.out _
  have HC3 : Hid (Chg (fun _ => False) w w3) := by rw [hw3]; exact HC2.out.f ((Chg.refl _ _).alloc _)
  rw [← hw3]
  clear hw3 T2 HC2 HM2
  obtain ⟨v, hv⟩ : ∃ v, v = w2.heap.size := ⟨_, rfl⟩
  rw [← hv] at V3 ⊢
  clear hv
  go_wp2_with fail
  refine (nil_opStep _ _).mono ?_
  rintro e w' ⟨rfl, rfl⟩
  go_wp2_with fail
  refine (nil_clStep _ _).mono ?_
  rintro e w' ⟨rfl, rfl⟩
  go_wp2_with fail
  refine (nil_opStamp (.bool true) _).mono ?_
  rintro e w' ⟨rfl, rfl⟩
  go_wp2_with fail
  refine (nil_opErrno (.bool true) _).mono ?_
  rintro e w' ⟨rfl, rfl⟩
  go_wp2_with fail
  refine (nil_clErrno (.bool true) _).mono ?_
  rintro e w' ⟨rfl, rfl⟩
  go_wp2_with fail
  refine (v_accesses _ _ _ _ _ V3.out).mono ?_
  rintro e w' ⟨rfl, rfl⟩
  have t0 : w'.cell? ⟨w.heap.size, 0, none⟩ = some (.int .u64 (cam : Int)) := T3.out.cell 0
  have t1 : w'.cell? ⟨w.heap.size, 1, none⟩ = some (.int .u64 (fst : Int)) := T3.out.cell 1
  have t2 : w'.cell? ⟨w.heap.size, 2, none⟩ = some (.int .i64 cnt) := T3.out.cell 2
  have t3 : w'.cell? ⟨w.heap.size, 3, none⟩ = some (.int .u64 (mst : Int)) := T3.out.cell 3
  go_wp2_with fail
  refine (live_nil cam fst mst cnt _).mono ?_
  rintro e w4 ⟨rfl, C4⟩
  have T4 := keepH (T3.out.chg C4 (fun x => x))
  have HC4 := keepH (HC3.out.f C4)
  clear C4 T3 HC3 V3 t0 t1 t2 t3
  have t0 : w4.cell? ⟨w.heap.size, 0, none⟩ = some (.int .u64 (cam : Int)) := T4.out.cell 0
  have t1 : w4.cell? ⟨w.heap.size, 1, none⟩ = some (.int .u64 (fst : Int)) := T4.out.cell 1
  have t2 : w4.cell? ⟨w.heap.size, 2, none⟩ = some (.int .i64 cnt) := T4.out.cell 2
  have t3 : w4.cell? ⟨w.heap.size, 3, none⟩ = some (.int .u64 (mst : Int)) := T4.out.cell 3
  go_wp2_with fail
  refine (op_new cam fst mst k a g cnt kn (HA.out 33) _).mono ?_
  rintro e w5 ⟨po, rfl, P5, C5, Z5⟩
  have HO5 := keepH P5
  have T5 := keepH (T4.out.chg C5 (fun x => x))
  have HC5 := keepH (HC4.out.f C5)
  have HZ5 : Hid (w.heap.size < po) := by have := lt_of T4.out; show _ < _; omega
  clear P5 C5 Z5 T4 HC4 t0 t1 t2 t3
  have t0 : w5.cell? ⟨w.heap.size, 0, none⟩ = some (.int .u64 (cam : Int)) := T5.out.cell 0
  have t1 : w5.cell? ⟨w.heap.size, 1, none⟩ = some (.int .u64 (fst : Int)) := T5.out.cell 1
  have t2 : w5.cell? ⟨w.heap.size, 2, none⟩ = some (.int .i64 cnt) := T5.out.cell 2
  have t3 : w5.cell? ⟨w.heap.size, 3, none⟩ = some (.int .u64 (mst : Int)) := T5.out.cell 3
  go_wp2_with fail
  refine (cl_new cam fst mst k a g cnt kn st (HA.out 34) _).mono ?_
  rintro e w6 ⟨pc, rfl, P6, C6, Z6⟩
  have HD6 := keepH P6
  have HO6 := keepH (HO5.out.chg C6 (fun x => x))
  have T6 := keepH (T5.out.chg C6 (fun x => x))
  have HC6 := keepH (HC5.out.f C6)
  have HZ6 : Hid (po < pc) := by have := lt_of HO5.out; show _ < _; omega
  clear P6 C6 Z6 T5 HC5 HO5 t0 t1 t2 t3
  go_wp2_with fail
  refine (op_nil HO6.out).mono ?_
  rintro e w7 ⟨rfl, P7, C7⟩
  have HO7 := keepH P7
  have HD7 := keepH (HD6.out.chg C7 (fun e => by have := HZ6.out; omega))
  have T7 := keepH (T6.out.chg C7 (fun e => by have := HZ5.out; omega))
  have HC7 : Hid (Chg (fun k => w.heap.size ≤ k) w w7) := HC6.out.trans C7 (fun _ _ x => x.elim) (fun i _ e => by have := HZ5.out; show _ ≤ _; omega)
  clear P7 C7 HD6 T6 HC6 HO6
  go_wp2_with fail
  refine (cl_nil HD7.out).mono ?_
  rintro e w8 ⟨rfl, P8, C8⟩
  have HD8 := keepH P8
  have HO8 := keepH (HO7.out.chg C8 (fun e => by have := HZ6.out; omega))
  have T8 := keepH (T7.out.chg C8 (fun e => by have := HZ5.out; have := HZ6.out; omega))
  have HC8 : Hid (Chg (fun k => w.heap.size ≤ k) w w8) := HC7.out.trans C8 (fun _ _ x => x) (fun i _ e => by have := HZ5.out; have := HZ6.out; show _ ≤ _; omega)
  clear P8 C8 HD7 T7 HC7 HO7
  have t0 : w8.cell? ⟨w.heap.size, 0, none⟩ = some (.int .u64 (cam : Int)) := T8.out.cell 0
  have t1 : w8.cell? ⟨w.heap.size, 1, none⟩ = some (.int .u64 (fst : Int)) := T8.out.cell 1
  have t2 : w8.cell? ⟨w.heap.size, 2, none⟩ = some (.int .i64 cnt) := T8.out.cell 2
  have t3 : w8.cell? ⟨w.heap.size, 3, none⟩ = some (.int .u64 (mst : Int)) := T8.out.cell 3
  go_wp2_with fail
  refine (HWH.out _).mono ?_
  rintro e w9 ⟨ax, gx, rfl, C9⟩
  have HD9 := keepH (HD8.out.chg C9 (fun x => x))
  have HO9 := keepH (HO8.out.chg C9 (fun x => x))
  have T9 := keepH (T8.out.chg C9 (fun x => x))
  have HC9 : Hid (Chg (fun k => w.heap.size ≤ k) w w9) := HC8.out.trans C9 (fun _ _ x => x) (fun _ _ x => x.elim)
  clear C9 HD8 HO8 T8 HC8 HWH t0 t1 t2 t3
  go_wp2_with fail
  refine (m_new 128 w9 (by omega)).mono ?_
  rintro e w10 ⟨rfl, M10, B10, C10, S10⟩
  have HS10 := keepH (SR.new0 (th := 0) M10 B10 C10 S10)
  have HM10 := keepH M10
  have HD10 := keepH (HD9.out.chg C10 (fun x => x))
  have HO10 := keepH (HO9.out.chg C10 (fun x => x))
  have T10 := keepH (T9.out.chg C10 (fun x => x))
  clear M10 B10 C10 S10
  go_wp2_with fail
  refine (m_view _ w9.heap.size 0 _ HM10.out).mono ?_
  rintro e w' ⟨rfl, rfl⟩
  obtain ⟨w11, hw11⟩ : ∃ w11, w11 = w10.alloc (.cells #[.iface 61 (.pointer (some ⟨w9.heap.size, 0, none⟩)), .int .i64 0, .int .i64 0] 64) := ⟨_, rfl⟩
  have T11 : Hid (Blk w11 w.heap.size 24 [.int .u64 (cam : Int), .int .u64 (fst : Int), .int .i64 cnt, .int .u64 (mst : Int)]) := by rw [hw11]; exact alloc_of T10.out _
  rw [← hw11] at HS10 ⊢
  clear hw11 T10 HM10 HD10 HO10 T9
  obtain ⟨u, hu⟩ : ∃ u, u = w10.heap.size := ⟨_, rfl⟩
  rw [← hu] at HS10 ⊢
  clear hu
  have t0 : w11.cell? ⟨w.heap.size, 0, none⟩ = some (.int .u64 (cam : Int)) := T11.out.cell 0
  have t1 : w11.cell? ⟨w.heap.size, 1, none⟩ = some (.int .u64 (fst : Int)) := T11.out.cell 1
  have t2 : w11.cell? ⟨w.heap.size, 2, none⟩ = some (.int .i64 cnt) := T11.out.cell 2
  have t3 : w11.cell? ⟨w.heap.size, 3, none⟩ = some (.int .u64 (mst : Int)) := T11.out.cell 3
  go_wp2_with fail
  refine (op_new cam fst mst k a g cnt kn (HA.out 33) _).mono ?_
  rintro e w12 ⟨pp, rfl, P12, C12, Z12⟩
  have HP12 := keepH P12
  have HS12 : Hid (SR w9 (w9.heap.size + 1) w9.heap.size u 0 128 w12 1 0 [] 0 (fun k => k = pp)) := HS10.out.more C12 (fun k e => .inr (by have e' : k = pp := e; have := lt_of P12; omega))
  clear P12 C12 Z12 HS10 T11 t0 t1 t2 t3 HA
  have HD12 := keepH (HD9.out.chg HS12.out.chg (fun x => x))
  have HO12 := keepH (HO9.out.chg HS12.out.chg (fun x => x))
  clear HD9 HO9
  cases kn with
  | false =>
    go_wp2_with fail
    refine (op_errno HO12.out).mono ?_
    rintro e w' ⟨rfl, rfl⟩
    go_wp2_with fail
    refine (cl_errno HD12.out).mono ?_
    rintro e w' ⟨rfl, rfl⟩
    go_wp2_with fail
    refine (HS12.out.openAny rfl HP12.out ha (by omega)).mono ?_
    rintro e w13 ⟨rfl, V13, C13⟩
    have HV13 : Hid (IsView w13 u w9.heap.size 0 0) := V13
    have HC13 : Hid (Chg (fun k => w.heap.size ≤ k) w w13) := HC9.out.trans C13 (fun _ _ x => x) (fun _ _ x => x.elim)
    clear V13 C13
    go_wp2_with fail
    refine (v_accesses _ _ _ _ _ HV13.out).mono ?_
    rintro e w' ⟨rfl, rfl⟩
    go_wp2_with fail
    refine (refUnpack_any 0 _ (by omega) (by omega)).mono ?_
    rintro e w14 ⟨rfl, rfl⟩
    go_wp2_with fail
    go_ret
    exact ⟨by simp, (HC13.out.alloc _).below (Nat.le_refl _)⟩
  | true =>
    go_wp2_with fail
    refine (op_errno HO12.out).mono ?_
    rintro e w' ⟨rfl, rfl⟩
    go_wp2_with fail
    refine (cl_errno HD12.out).mono ?_
    rintro e w' ⟨rfl, rfl⟩
    go_wp2_with fail
    refine (HS12.out.openAny rfl HP12.out ha (by omega)).mono ?_
    rintro e w13 ⟨rfl, V13, C13⟩
    have HV13 : Hid (IsView w13 u w9.heap.size 0 1) := V13
    have HC13 : Hid (Chg (fun k => w.heap.size ≤ k) w w13) := HC9.out.trans C13 (fun _ _ x => x) (fun _ _ x => x.elim)
    clear V13 C13
    go_wp2_with fail
    refine (v_accesses _ _ _ _ _ HV13.out).mono ?_
    rintro e w' ⟨rfl, rfl⟩
    go_wp2_with fail
    refine (refUnpack_any 0 _ (by omega) (by omega)).mono ?_
    rintro e w14 ⟨rfl, rfl⟩
    go_wp2_with fail
    go_ret
    exact ⟨by simp, (HC13.out.alloc _).below (Nat.le_refl _)⟩

set_option maxRecDepth 100000 in
theorem lifted (os : Os) (started : os.Started) (H : Type) (enc : TypeId × Value → H) :
    ReturnsInHanded {} Tryz.checked os 3 .any (Rows.handleNoneSpec.pre6 enc Tryz.prog Tryz.f3 Rows.handleNoneRow.domain false) (Rows.handleNoneSpec.post enc Tryz.prog Tryz.f3 false true false false) := by
  refine returnsInHanded_of_change_sized (C := Tryz.checked) own started (by kernel_rfl) Tryz.func3
    (ChangeSpec.witness6 (enc := enc) (C := Tryz.checked) false ⟨#[], #[.agg #[.int .u64 0, .int .u64 0, .int .i64 0, .int .u64 0], .int .u64 0, .int .u64 0], []⟩ 8 (by kernel_rfl) (by kernel_rfl) (by kernel_rfl) (by kernel_rfl)) ?_
  intro W base args ds gs before hval0 hW hcnd hsz0 _
  have hval : ∀ (j : Nat) t v, Tryz.f3.params[j]? = some t → args[j]? = some v → Value.okWide Tryz.prog W .any base t v := hval0
  have hsz : (DataW.weightsEach Tryz.prog (Tryz.f3.params.toList ++ Rows.handleNoneSpec.plain.varTypes Tryz.prog) (ds ++ gs)).all (· ≤ reachBytes) = true := hsz0
  clear hsz0
  have hW' := hW
  obtain ⟨p, q, hA0, hV, rfl, hfz, hnd⟩ := hW
  have hA : DataW.TrodAll enc Tryz.prog W 0 (fun _ => true) true Tryz.f3.params.toList args.toList ds p := hA0
  rw [Tryz.params3] at hA hval hsz
  obtain ⟨v0, vs0, d0, ds0, p0, q0, hargs, rfl, rfl, h0, r0⟩ := trodAll_cons hA
  obtain ⟨v1, vs1, d1, ds1, p1, q1, rfl, rfl, rfl, h1, r1⟩ := trodAll_cons r0
  obtain ⟨v2, vs2, d2, ds2, p2, q2, rfl, rfl, rfl, h2, r2⟩ := trodAll_cons r1
  obtain ⟨rfl, rfl, rfl⟩ := trodAll_nil r2
  obtain rfl : args = #[v0, v1, v2] := by cases args; simp_all
  obtain ⟨rfl, rfl⟩ := trodVars_none hV
  have k0 := h0
  have lt0 : ∀ x ∈ p0, x.block < W.heap.size := by obtain ⟨m, hm⟩ := k0; exact DataW.trod_lt m _ _ _ hm
  have k1 := h1
  have lt1 : ∀ x ∈ p1, x.block < W.heap.size := by obtain ⟨m, hm⟩ := k1; exact DataW.trod_lt m _ _ _ hm
  have k2 := h2
  have lt2 : ∀ x ∈ p2, x.block < W.heap.size := by obtain ⟨m, hm⟩ := k2; exact DataW.trod_lt m _ _ _ hm
  obtain ⟨x0, x1, x2, x3, y0, y1, y2, y3, m0, rfl, rfl, rfl, g0, g1, g2, g3⟩ := open_agg4 Tryz.underlying24 (by kernel_rfl) (by kernel_rfl) (hval 0 24 v0 rfl rfl) h0
  obtain ⟨a0, e0, rfl, w0⟩ := DataW.trod_int Tryz.underlying22 g0
  obtain ⟨a1, e1, rfl, w1⟩ := DataW.trod_int Tryz.underlying22 g1
  obtain ⟨a2, e2, rfl, w2⟩ := DataW.trod_int Tryz.underlying3 g2
  obtain ⟨a3, e3, rfl, w3⟩ := DataW.trod_int Tryz.underlying22 g3
  simp at e0 e1 e2 e3
  subst e0 e1 e2 e3
  obtain ⟨cam, rfl, hc⟩ : ∃ m : Nat, a0 = (m : Int) ∧ m < 18446744073709551616 := by have b := bounds_u64 w0; exact ⟨a0.toNat, by omega, by omega⟩
  obtain ⟨fst, rfl, hf⟩ : ∃ m : Nat, a1 = (m : Int) ∧ m < 18446744073709551616 := by have b := bounds_u64 w1; exact ⟨a1.toNat, by omega, by omega⟩
  obtain ⟨mst, rfl, hm⟩ : ∃ m : Nat, a3 = (m : Int) ∧ m < 18446744073709551616 := by have b := bounds_u64 w3; exact ⟨a3.toNat, by omega, by omega⟩
  obtain ⟨a4, rfl, rfl, rfl, w4⟩ := open_int Tryz.underlying22 (hval 1 22 v1 rfl rfl) h1
  obtain ⟨k, rfl, hk⟩ : ∃ m : Nat, a4 = (m : Int) ∧ m < 18446744073709551616 := by have b := bounds_u64 w4; exact ⟨a4.toNat, by omega, by omega⟩
  obtain ⟨a5, rfl, rfl, rfl, w5⟩ := open_int Tryz.underlying22 (hval 2 22 v2 rfl rfl) h2
  obtain ⟨st, rfl, hst⟩ : ∃ m : Nat, a5 = (m : Int) ∧ m < 18446744073709551616 := by have b := bounds_u64 w5; exact ⟨a5.toNat, by omega, by omega⟩
  clear hA0 hval0
  refine (walk cam fst mst k st a2 W hk).mono fun e W' ⟨he, bel⟩ => ?_
  subst he
  exact ⟨_, rfl, _, _, _, [], _, [], hW', trodAll_mk1 (shut_bool Tryz.underlying4 _), (trodAll_cons_mk (Below.trod laidOut (by kernel_rfl) (of_decide_eq_true (by kernel_rfl)) k0 bel lt0) (trodAll_cons_mk (Below.trod laidOut (by kernel_rfl) (of_decide_eq_true (by kernel_rfl)) k1 bel lt1) (trodAll_cons_mk (Below.trod laidOut (by kernel_rfl) (of_decide_eq_true (by kernel_rfl)) k2 bel lt2) trodAll_mk0))), rfl, bel.frame _, fun h => by cases h⟩

theorem over : Rows.handleNoneRow.holds Tryz.pinned (OpenSpec.ofChange Rows.handleNoneSpec) :=
  OpenClaim.holds_of_wide 3 Tryz.f3 rfl rfl rfl rfl rfl rfl rfl ⟨rfl, rfl, rfl, rfl, rfl⟩ rfl rfl rfl rfl rfl (by kernel_rfl) Tryz.func3 (by kernel_rfl)
    (of_decide_eq_true (by kernel_rfl)) (by unfold Func.isWrapper; first | (rw [if_pos (by decide +kernel)]; kernel_rfl) | (rw [if_neg (by decide +kernel)]; exact ⟨rfl, rfl⟩))
    (fun os started H enc _ => lifted os started H enc)
end Go.Proofs.YtlgkioaomcobdaaGreat.handleNone
namespace Go.Proofs.YtlgkioaomcobdaaGreat
theorem handleNone_holds : Rows.HandleNoneSaid := handleNone.over
end Go.Proofs.YtlgkioaomcobdaaGreat
