/- Wherever a trie is said to be and whatever the key: the trie's procs that are nil do nothing and tell ErrNil, a trie on a nil view is not made, a Find on a nil view ends at its first step and finds nothing, no memory has no pairs, and a mixed key mixed back is the key (shutterlaw11.TrieNone is true for every input). -/
import Derived.Test.YtokooplfjibneaaGreatRows
import Derived.WalkKit
import Derived.ProofKit
import Derived.OpenShut
import Derived.JoinedCond
import Derived.Carry
import Derived.Lib.SmallJoins
import Derived.Test.YtokooplfjibneaaGreatTsa
namespace Go.Proofs.YtokooplfjibneaaGreat.trieNone
open Go.ChangeShapes Go.WideShapes Go.ChangeAt Go.RowKit Go.Joins Go.Shelf
set_option linter.unusedVariables false

theorem own : ownKnob Tryz.prog.godebug = none := by kernel_rfl
theorem laidOut : laidOutB Tryz.prog = true := by kernel_rfl

set_option maxRecDepth 100000 in
set_option maxHeartbeats 8000000 in
theorem walk (cam br k : Nat) (w : World) (hc : cam < 18446744073709551616) (hb : br < 18446744073709551616) (hk : k < 18446744073709551616) :
    Calls Tryz.prog 3 #[.agg #[.int .u64 (cam : Int), .int .u64 (br : Int)], .int .u64 (k : Int)] w fun e w' => e = .returned (.bool true) ∧ Below w.heap.size w w' := by
  have fl0 := fld_0
  obtain ⟨mx, hmx⟩ : ∃ mx, mx = mixN k := ⟨_, rfl⟩
  have hmb : mx < 18446744073709551616 := by rw [hmx]; exact mixN_lt
  have hbd := dig_bd (mx : Int) 0 (by omega)
  obtain ⟨dg, hdg⟩ : ∃ dg : Nat, (dg : Int) = dig (mx : Int) 0 := ⟨(dig (mx : Int) 0).toNat, by omega⟩
  have hdl : dg < 64 := by omega
  obtain ⟨obj, ho⟩ : ∃ obj, obj = (br + dg) % 18446744073709551616 := ⟨_, rfl⟩
  have HN := keepH (fun W => new_find cam br k mx dg obj W hk hmx hdg hdl ho)
  have HMX := keepH hmx
  have HBM : Hid (backN mx = k) := by rw [hmx]; exact back_mix hk
  clear hbd hdg hdl ho hmx
  obtain ⟨w0, hw0⟩ : ∃ w0, w0 = w.alloc (.cells #[.int .u64 (cam : Int), .int .u64 (br : Int)] 24) := ⟨_, rfl⟩
  have T0 : Hid (Blk w0 w.heap.size 24 [.int .u64 (cam : Int), .int .u64 (br : Int)]) := by rw [hw0]; exact heap_alloc_new _ _
  have HC0 : Hid (Chg (fun _ => False) w w0) := by rw [hw0]; exact (Chg.refl _ _).alloc _
  go_enter Tryz.func3, Tryz.ntmps3
  go_upto_region 1 with fail
  rw [← hw0]
  clear hw0
  go_wp2_with fail
  refine (make_nil _).mono ?_
  rintro e w1 ⟨rfl, C1⟩
  obtain ⟨w2, hw2⟩ : ∃ w2, w2 = w1.alloc (.cells #[.int .u64 0, .int .u64 0] 24) := ⟨_, rfl⟩
  have C2 : Chg (fun _ => False) w0 w2 := by rw [hw2]; exact C1.alloc _
  have T2 := keepH (T0.out.chg C2 (fun x => x))
  have HC2 : Hid (Chg (fun _ => False) w w2) := HC0.out.trans C2 (fun _ _ x => x) (fun _ _ x => x)
  clear C1 C2 T0 HC0
  go_upto_region 6 with fail
  rw [← hw2]
  clear hw2
  have t0 : w2.cell? ⟨w.heap.size, 0, none⟩ = some (.int .u64 (cam : Int)) := T2.out.cell 0
  have t1 : w2.cell? ⟨w.heap.size, 1, none⟩ = some (.int .u64 (br : Int)) := T2.out.cell 1
  go_wp2_with fail
  refine (HN.out _).mono ?_
  rintro e w3 ⟨p, q, rfl, hpw, hpq, P3, R3, C3⟩
  have T3 := keepH (T2.out.chg C3 (fun x => x))
  have HP3 := keepH P3
  have HR3 := keepH R3
  have HC3 : Hid (Chg (fun _ => False) w w3) := HC2.out.trans C3 (fun _ _ x => x) (fun _ _ x => x)
  have HZ : Hid (w.heap.size ≤ w2.heap.size ∧ w2.heap.size ≤ p ∧ p < q ∧ w.heap.size < w2.heap.size) := ⟨HC2.out.size, hpw, hpq, lt_of T2.out⟩
  clear C3 P3 R3 hpw hpq T2 HC2 t0 t1
  go_wp2_with fail
  refine (live_11 _).mono ?_
  rintro e w4 ⟨rfl, C4⟩
  have T4 := keepH (T3.out.chg C4 (fun x => x))
  have HP4 := keepH (HP3.out.chg C4 (fun x => x))
  have HR4 := keepH (HR3.out.chg C4 (fun x => x))
  have HC4 : Hid (Chg (fun _ => False) w w4) := HC3.out.trans C4 (fun _ _ x => x) (fun _ _ x => x)
  clear C4 T3 HP3 HR3 HC3
  go_wp2_with fail
  refine (nil_FindStep _ _).mono ?_
  rintro e x0 ⟨rfl, rfl⟩
  go_wp2_with fail
  refine (nil_PutStep _ _).mono ?_
  rintro e x1 ⟨rfl, rfl⟩
  go_wp2_with fail
  refine (nil_RemoveStep _ _).mono ?_
  rintro e x2 ⟨rfl, rfl⟩
  go_wp2_with fail
  refine (nil_SwapStep _ _).mono ?_
  rintro e x3 ⟨rfl, rfl⟩
  go_wp2_with fail
  refine (nil_FindAnswer _).mono ?_
  rintro e y0 ⟨rfl, D0⟩
  have T5 := keepH (T4.out.chg D0 (fun x => x))
  have HP5 := keepH (HP4.out.chg D0 (fun x => x))
  have HR5 := keepH (HR4.out.chg D0 (fun x => x))
  have HC5 : Hid (Chg (fun _ => False) w y0) := HC4.out.trans D0 (fun _ _ x => x) (fun _ _ x => x)
  clear D0 T4 HP4 HR4 HC4
  go_wp2_with fail
  refine (nil_PutAnswer _).mono ?_
  rintro e y1 ⟨rfl, D1⟩
  have T6 := keepH (T5.out.chg D1 (fun x => x))
  have HP6 := keepH (HP5.out.chg D1 (fun x => x))
  have HR6 := keepH (HR5.out.chg D1 (fun x => x))
  have HC6 : Hid (Chg (fun _ => False) w y1) := HC5.out.trans D1 (fun _ _ x => x) (fun _ _ x => x)
  clear D1 T5 HP5 HR5 HC5
  go_wp2_with fail
  refine (nil_RemoveAnswer _).mono ?_
  rintro e y2 ⟨rfl, D2⟩
  have T7 := keepH (T6.out.chg D2 (fun x => x))
  have HP7 := keepH (HP6.out.chg D2 (fun x => x))
  have HR7 := keepH (HR6.out.chg D2 (fun x => x))
  have HC7 : Hid (Chg (fun _ => False) w y2) := HC6.out.trans D2 (fun _ _ x => x) (fun _ _ x => x)
  clear D2 T6 HP6 HR6 HC6
  go_wp2_with fail
  refine (nil_SwapAnswer _).mono ?_
  rintro e y3 ⟨rfl, D3⟩
  have T8 := keepH (T7.out.chg D3 (fun x => x))
  have HP8 := keepH (HP7.out.chg D3 (fun x => x))
  have HR8 := keepH (HR7.out.chg D3 (fun x => x))
  have HC8 : Hid (Chg (fun _ => False) w y3) := HC7.out.trans D3 (fun _ _ x => x) (fun _ _ x => x)
  clear D3 T7 HP7 HR7 HC7
  have hne : p ≠ q := by have := HZ.out; omega
  have hS := rd_nv HR8.out
  have hD := down_tell (fd := false) (fx := 0) HP8.out (.pointer none) _ hS (fun z hz => HP8.out.chg hz.2 hne) (fun z hz => ⟨_, _, hz.1, rfl⟩)
  have hF := keepH (step_Find (.pointer none) true _ (step_tDownT HP8.out rfl _ _ hD (fun z hz => by obtain ⟨y, hy, C, P⟩ := hz; exact P.cell 16)))
  clear hS hD hne
  go_wp2_with fail
  refine hF.out.mono ?_
  rintro e z1 ⟨rfl, y, ⟨_, Cq⟩, Cp, P9⟩
  have C9 : Chg (fun k => k = p ∨ k = q) y3 z1 := Cq.trans Cp (fun _ _ x => .inr x) (fun _ _ x => .inl x)
  have T9 := keepH (T8.out.chg C9 (by have := HZ.out; omega))
  have HP9 := keepH P9
  have HC9 : Hid (Chg (fun _ => False) w z1) := HC8.out.trans C9 (fun _ _ x => x) (fun i hi e => by have := HZ.out; omega)
  clear Cq Cp P9 C9 T8 HP8 HR8 HC8 hF
  go_wp2_with fail
  refine (find_answer _ HP9.out).mono ?_
  rintro e z2 ⟨rfl, D5⟩
  have T10 := keepH (T9.out.chg D5 (fun x => x))
  have HC10 : Hid (Chg (fun _ => False) w z2) := HC9.out.trans D5 (fun _ _ x => x) (fun _ _ x => x)
  clear D5 T9 HC9 HP9
  go_wp2_with fail
  refine (same_zero _).mono ?_
  rintro e z3 ⟨rfl, D6⟩
  have T11 := keepH (T10.out.chg D6 (fun x => x))
  have HC11 : Hid (Chg (fun _ => False) w z3) := HC10.out.trans D6 (fun _ _ x => x) (fun _ _ x => x)
  clear D6 T10 HC10
  have t0 : z3.cell? ⟨w.heap.size, 0, none⟩ = some (.int .u64 (cam : Int)) := T11.out.cell 0
  have t1 : z3.cell? ⟨w.heap.size, 1, none⟩ = some (.int .u64 (br : Int)) := T11.out.cell 1
  go_wp2_with fail
  refine (pairs_nil cam br _).mono ?_
  rintro e z4 ⟨rfl, D7⟩
  have HC12 : Hid (Chg (fun _ => False) w z4) := HC11.out.trans D7 (fun _ _ x => x) (fun _ _ x => x)
  clear D7 HC11 t0 t1
  have HM := keepH (mix_nat k z4 hk)
  rw [← HMX.out] at HM
  go_wp2_with fail
  refine HM.out.mono ?_
  rintro e z5 ⟨rfl, rfl⟩
  have HB := keepH (back_nat mx z5 hmb)
  rw [HBM.out] at HB
  go_wp2_with fail
  refine HB.out.mono ?_
  rintro e z6 ⟨rfl, b6⟩
  have HB6 := keepH b6
  clear b6
  go_wp2_with fail
  go_ret
  have b0 : Below w.heap.size w z5 := (HC12.out.mono (G := fun k => w.heap.size ≤ k) (fun _ _ x => x.elim)).below (Nat.le_refl _)
  exact ⟨by simp, b0.trans (HB6.out.mono b0.size)⟩

set_option maxRecDepth 100000 in
theorem lifted (os : Os) (started : os.Started) (H : Type) (enc : TypeId × Value → H) :
    ReturnsInHanded {} Tryz.checked os 3 .any (Rows.trieNoneSpec.pre6 enc Tryz.prog Tryz.f3 Rows.trieNoneRow.domain false) (Rows.trieNoneSpec.post enc Tryz.prog Tryz.f3 false true false false) := by
  refine returnsInHanded_of_change_sized (C := Tryz.checked) own started (by kernel_rfl) Tryz.func3
    (ChangeSpec.witness6 (enc := enc) (C := Tryz.checked) false ⟨#[], #[.agg #[.int .u64 0, .int .u64 0], .int .u64 0], []⟩ 8 (by kernel_rfl) (by kernel_rfl) (by kernel_rfl) (by kernel_rfl)) ?_
  intro W base args ds gs before hval0 hW hcnd hsz0 _
  have hval : ∀ (j : Nat) t v, Tryz.f3.params[j]? = some t → args[j]? = some v → Value.okWide Tryz.prog W .any base t v := hval0
  have hsz : (DataW.weightsEach Tryz.prog (Tryz.f3.params.toList ++ Rows.trieNoneSpec.plain.varTypes Tryz.prog) (ds ++ gs)).all (· ≤ reachBytes) = true := hsz0
  clear hsz0
  have hW' := hW
  obtain ⟨p, q, hA0, hV, rfl, hfz, hnd⟩ := hW
  have hA : DataW.TrodAll enc Tryz.prog W 0 (fun _ => true) true Tryz.f3.params.toList args.toList ds p := hA0
  rw [Tryz.params3] at hA hval hsz
  obtain ⟨v0, vs0, d0, ds0, p0, q0, hargs, rfl, rfl, h0, r0⟩ := trodAll_cons hA
  obtain ⟨v1, vs1, d1, ds1, p1, q1, rfl, rfl, rfl, h1, r1⟩ := trodAll_cons r0
  obtain ⟨rfl, rfl, rfl⟩ := trodAll_nil r1
  obtain rfl : args = #[v0, v1] := by cases args; simp_all
  obtain ⟨rfl, rfl⟩ := trodVars_none hV
  have k0 := h0
  have lt0 : ∀ x ∈ p0, x.block < W.heap.size := by obtain ⟨m, hm⟩ := k0; exact DataW.trod_lt m _ _ _ hm
  have k1 := h1
  have lt1 : ∀ x ∈ p1, x.block < W.heap.size := by obtain ⟨m, hm⟩ := k1; exact DataW.trod_lt m _ _ _ hm
  obtain ⟨x0, x1, y0, y1, m0, rfl, rfl, rfl, g0, g1⟩ := open_agg2 Tryz.underlying24 (by kernel_rfl) (by kernel_rfl) (hval 0 24 v0 rfl rfl) h0
  obtain ⟨a0, e0, rfl, w0⟩ := DataW.trod_int Tryz.underlying22 g0
  obtain ⟨a1, e1, rfl, w1⟩ := DataW.trod_int Tryz.underlying22 g1
  simp at e0 e1
  subst e0 e1
  obtain ⟨cam, rfl, hc⟩ : ∃ m : Nat, a0 = (m : Int) ∧ m < 18446744073709551616 := by have b := bounds_u64 w0; exact ⟨a0.toNat, by omega, by omega⟩
  obtain ⟨br, rfl, hb⟩ : ∃ m : Nat, a1 = (m : Int) ∧ m < 18446744073709551616 := by have b := bounds_u64 w1; exact ⟨a1.toNat, by omega, by omega⟩
  obtain ⟨a2, rfl, rfl, rfl, w2⟩ := open_int Tryz.underlying22 (hval 1 22 v1 rfl rfl) h1
  obtain ⟨k, rfl, hk⟩ : ∃ m : Nat, a2 = (m : Int) ∧ m < 18446744073709551616 := by have b := bounds_u64 w2; exact ⟨a2.toNat, by omega, by omega⟩
  clear hA0 hval0
  refine (walk cam br k W hc hb hk).mono fun e W' ⟨he, bel⟩ => ?_
  subst he
  exact ⟨_, rfl, _, _, _, [], _, [], hW', trodAll_mk1 (shut_bool Tryz.underlying4 _), (trodAll_cons_mk (Below.trod laidOut (by kernel_rfl) (of_decide_eq_true (by kernel_rfl)) k0 bel lt0) (trodAll_cons_mk (Below.trod laidOut (by kernel_rfl) (of_decide_eq_true (by kernel_rfl)) k1 bel lt1) trodAll_mk0)), rfl, bel.frame _, fun h => by cases h⟩

theorem over : Rows.trieNoneRow.holds Tryz.pinned (OpenSpec.ofChange Rows.trieNoneSpec) :=
  OpenClaim.holds_of_wide 3 Tryz.f3 rfl rfl rfl rfl rfl rfl rfl ⟨rfl, rfl, rfl, rfl, rfl⟩ rfl rfl rfl rfl rfl (by kernel_rfl) Tryz.func3 (by kernel_rfl)
    (of_decide_eq_true (by kernel_rfl)) (by unfold Func.isWrapper; first | (rw [if_pos (by decide +kernel)]; kernel_rfl) | (rw [if_neg (by decide +kernel)]; exact ⟨rfl, rfl⟩))
    (fun os started H enc _ => lifted os started H enc)
end Go.Proofs.YtokooplfjibneaaGreat.trieNone
namespace Go.Proofs.YtokooplfjibneaaGreat
theorem trieNone_holds : Rows.TrieNoneSaid := trieNone.over
end Go.Proofs.YtokooplfjibneaaGreat
