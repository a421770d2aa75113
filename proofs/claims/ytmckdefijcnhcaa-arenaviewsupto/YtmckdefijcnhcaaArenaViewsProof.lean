/- Whatever the script: a view counts its own accesses alone and goes on with its own memory, forks keep theirs (shutterlaw03.ArenaViews is true for every input of bulk at most 1048576: a trace of accesses takes more bytes than the script). -/
import Derived.Test.YtmckdefijcnhcaaRows
import Derived.WalkKit
import Derived.ProofKit
import Derived.OpenShut
import Derived.JoinedCond
import Derived.Carry
import Derived.Lib.SmallJoins
import Derived.Test.YtmckdefijcnhcaaAV
namespace Go.Proofs.Ytmckdefijcnhcaa.arenaViews
open Go.ChangeShapes Go.WideShapes Go.ChangeAt Go.RowKit Go.Joins Go.Shelf
set_option linter.unusedVariables false

theorem own : ownKnob Try.prog.godebug = none := by kernel_rfl
theorem laidOut : laidOutB Try.prog = true := by kernel_rfl

set_option maxRecDepth 100000 in
set_option maxHeartbeats 8000000 in
theorem walk (p : Option Addr) (c : Nat) (ops : List OpR) (w : World) (hS : Script w p ops) (hn : ops.length ≤ 1048576) :
    Calls Try.prog 4 #[.slice p ops.length c] w fun e w' => e = .returned (.bool true) ∧ Below w.heap.size w w' := by
  have HS := keepH hS
  clear hS
  go_enter Try.func4, Try.ntmps4
  go_wp2_with fail
  refine (m_new 256 w (by omega)).mono ?_
  rintro e W1 ⟨rfl, M1, B1, C1, S1⟩
  have HM1 := keepH M1
  have HB1 := keepH B1
  have HS1 := keepH S1
  have HC1 := keepH C1
  clear M1 B1 S1 C1
  go_wp2_with fail
  refine (m_view _ w.heap.size 1 _ HM1.out).mono ?_
  rintro e w' ⟨rfl, rfl⟩
  have c2 : Chg (fun _ => False) W1 (W1.alloc (.cells #[.iface 93 (.pointer (some ⟨w.heap.size, 0, none⟩)), .int .i64 1, .int .i64 0] 105)) := (Chg.refl _ _).alloc _
  go_wp2_with fail
  refine (m_view _ w.heap.size 2 _ (HM1.out.chg c2 (fun h => h))).mono ?_
  rintro e w' ⟨rfl, rfl⟩
  have c3 : Chg (fun _ => False) W1 ((W1.alloc (.cells #[.iface 93 (.pointer (some ⟨w.heap.size, 0, none⟩)), .int .i64 1, .int .i64 0] 105)).alloc (.cells #[.iface 93 (.pointer (some ⟨w.heap.size, 0, none⟩)), .int .i64 2, .int .i64 0] 105)) := c2.alloc _
  go_wp2_with fail
  refine (m_fork (w.heap.size + 1) w.heap.size 256 1 (fun k => k = w.heap.size) [] [] _ (HM1.out.chg c3 (fun h => h)) (HB1.out.chg c3 (fun _ _ h => h))).mono ?_
  rintro e W4 ⟨mf, bf, Ff, rfl, M4, B4, I4, L4, L4', N4, C4⟩
  have hAV : Hid (AV w W4 (w.heap.size + 1) w.heap.size W1.heap.size (W1.heap.size + 1) mf bf (fun k => k = w.heap.size) Ff [] [] 0 0) := by
    have s1 := HS1.out
    simp only [World.size_alloc] at I4 L4 L4'
    refine ⟨HB1.out.chg (c3.trans C4 (fun _ _ x => x) (fun _ _ x => x)) (fun _ _ h => h), ?_, ?_, HM1.out.chg (c3.trans C4 (fun _ _ x => x) (fun _ _ x => x)) (fun h => h), M4, B4, by omega, by omega, by omega, by omega, fun k e => ?_, by omega, by omega, fun k e => by omega, by omega, fun x hx => by simp at hx, ?_⟩
    · exact (C4.block _ (by simp; omega) (fun h => h)).trans (alloc_of (heap_alloc_new _ _) _)
    · have e := heap_alloc_new (W1.alloc (.cells #[.iface 93 (.pointer (some ⟨w.heap.size, 0, none⟩)), .int .i64 1, .int .i64 0] 105)) (.cells #[.iface 93 (.pointer (some ⟨w.heap.size, 0, none⟩)), .int .i64 2, .int .i64 0] 105)
      rw [World.size_alloc] at e
      exact (C4.block _ (by simp) (fun h => h)).trans e
    · have := I4 k e
      omega
    · exact HC1.out.trans (c3.trans C4 (fun _ _ x => x) (fun _ _ x => x)) (fun _ _ x => x) (fun _ _ x => x)
  clear M4 B4 I4 L4 L4' N4 C4 c2 c3
  go_wp2_with fail
  go_loopw [8, 27] (fun s i wr => ∃ (k n : Nat) (F : Nat → Prop) (cs : List Nat) (l : List Acc), k ≤ ops.length ∧ n ≤ k ∧ s = .int .i64 (n : Int) ∧ i = .int .i64 (k : Int) ∧ l.length = k ∧ Hid (AV w wr (w.heap.size + 1) w.heap.size W1.heap.size (W1.heap.size + 1) mf bf F Ff cs l n (k - n))) (fun _ i _ => ops.length - (intOf i).toNat)
  case atStart => exact ⟨0, 0, _, _, _, by omega, by omega, rfl, rfl, rfl, hAV⟩
  case round =>
    obtain ⟨k, n, F, cs, l, hk, hnk, rfl, rfl, hl, HV⟩ := hrel
    by_cases hlt : k < ops.length
    · have t1 : (k : Int) < (ops.length : Int) := by omega
      obtain ⟨o, ho⟩ : ∃ o, ops[k]? = some o := ⟨ops[k], List.getElem?_eq_getElem hlt⟩
      obtain ⟨bk, off, rfl, hbk, hcell, hok⟩ := HS.out.get k o ho
      have hc : ∀ j u, o.cells[j]? = some u → wr.cell? ⟨bk, off + k * 7 + j, none⟩ = some u := fun j u hj => cell_chg HV.out.chg (hcell j u hj) (fun h => h)
      have c0 : wr.cell? ⟨bk, off + k * 7, none⟩ = some (.int .i64 o.k) := hc 0 _ rfl
      have c1 : wr.cell? ⟨bk, off + k * 7 + 1, none⟩ = some (.int .i64 o.wh) := hc 1 _ rfl
      have c2 : wr.cell? ⟨bk, off + k * 7 + 2, none⟩ = some (.int .i64 o.th) := hc 2 _ rfl
      have c3 : wr.cell? ⟨bk, off + k * 7 + 3, none⟩ = some (.int .u64 (o.ad : Int)) := hc 3 _ rfl
      have c4 : wr.cell? ⟨bk, off + k * 7 + 4, none⟩ = some (.int .u64 (o.a : Int)) := hc 4 _ rfl
      have c5 : wr.cell? ⟨bk, off + k * 7 + 5, none⟩ = some (.int .u64 (o.b : Int)) := hc 5 _ rfl
      have c6 : wr.cell? ⟨bk, off + k * 7 + 6, none⟩ = some (.slice o.p o.vals.length o.c) := hc 6 _ rfl
      have HOK := keepH hok
      clear hc hok hcell ho hbk hAV
      obtain ⟨am, ham⟩ : ∃ am, am = o.ad % 256 := ⟨_, rfl⟩
      have hm : am < 18446744073709551616 := by omega
      have em : ((o.ad : Int) % 256) = (am : Int) := by omega
      clear ham
      have HQ := keepH (HV.out.quiet ((Chg.refl _ _).alloc (.cells #[.int .i64 o.k, .int .i64 o.wh, .int .i64 o.th, .int .u64 (o.ad : Int), .int .u64 (o.a : Int), .int .u64 (o.b : Int), .slice o.p o.vals.length o.c] 36)))
      have wk : IntKind.i64.wrap ((n : Int) + 1) = ((n + 1 : Nat) : Int) := by rw [IntKind.wrap_i64]; omega
      by_cases h2 : o.th.tmod 2 = 0
      · go_wp2_with fail
        refine (v_add _ _ _ _ _ 1 am o.a _ _ _ _ HQ.out.sa HQ.out.bank HQ.out.fa (by omega) (by omega) hm).mono ?_
        rintro e w2 ⟨rfl, F2, vs2, B2, V2, G2⟩
        have HA2 := keepH (HQ.out.stepA B2 rfl V2 G2)
        clear B2 V2 G2 HQ
        go_wp2_with fail
        go_roundw
        case rel => exact ⟨k + 1, n + 1, F2, stN 256 cs am (addN (cellN cs am) o.a), l ++ [⟨1, 4, am, o.a, 0, vs2, [], cellN cs am, false⟩], by omega, by omega, by first | rfl | go_num, by first | rfl | go_num, by rw [List.length_append, hl]; rfl, by rw [show k + 1 - (n + 1) = k - n by omega]; exact HA2⟩
        case measure => simp [intOf]; omega
      · go_wp2_with fail
        refine (v_store _ _ _ _ _ 2 am o.a _ _ _ _ HQ.out.sb HQ.out.bank HQ.out.fb (by omega) (by omega) hm HOK.out.a).mono ?_
        rintro e w2 ⟨rfl, F2, vs2, B2, V2, G2⟩
        have HA2 := keepH (HQ.out.stepB B2 rfl V2 G2)
        clear B2 V2 G2 HQ
        go_wp2_with fail
        go_roundw
        case rel => exact ⟨k + 1, n, F2, stN 256 cs am o.a, l ++ [⟨2, 2, am, o.a, 0, vs2, [], 0, false⟩], by omega, by omega, rfl, by first | rfl | go_num, by rw [List.length_append, hl]; rfl, by rw [show k + 1 - n = k - n + 1 by omega]; exact HA2⟩
        case measure => simp [intOf]; omega
    · obtain rfl : k = ops.length := by omega
      obtain ⟨nb, hnb⟩ : ∃ nb, nb = ops.length - n := ⟨_, rfl⟩
      have wb : IntKind.i64.wrap ((ops.length : Int) - (n : Int)) = (nb : Int) := by rw [IntKind.wrap_i64]; omega
      rw [← hnb] at HV
      have hl1 : l.length ≤ 1099511627776 := by omega
      have HL := keepH hl
      have hvl : Hid (∀ x ∈ l, x.vals.length ≤ 1099511627776) := fun x hx => by rw [HV.out.vals x hx]; simp
      clear hnb hl hAV hk hnk
      go_wp2_with fail
      refine (m_fork _ _ 256 1 _ _ _ _ HV.out.mem HV.out.bank).mono ?_
      rintro e W5 ⟨mg, bg, Fg, rfl, M5, B5, I5, L5, L5', N5, C5⟩
      have K5 := keepH I5
      have HM5 := keepH M5
      have HB5 := keepH B5
      have HN5 := keepH N5
      have HC5 := keepH C5
      have HI5 : Hid (∀ k, Fg k → k < W5.heap.size) := fun k hk => by obtain ⟨_, _, B⟩ := B5; exact B.lt k hk
      clear M5 B5 N5 I5 C5
      go_wp2_with fail
      refine (m_view _ _ 3 _ HM5.out).mono ?_
      rintro e w' ⟨rfl, rfl⟩
      have c7 : Hid (Chg (fun _ => False) W5 ((W5.alloc (.cells #[.iface 93 (.pointer (some ⟨bg, 0, none⟩)), .int .i64 3, .int .i64 0] 105)).alloc (.cells ([1].map u64V).toArray 33))) := ((Chg.refl _ _).alloc _).alloc _
      have hv7 : Hid (IsView ((W5.alloc (.cells #[.iface 93 (.pointer (some ⟨bg, 0, none⟩)), .int .i64 3, .int .i64 0] 105)).alloc (.cells ([1].map u64V).toArray 33)) W5.heap.size bg 3 0) := alloc_of (heap_alloc_new _ _) _
      go_wp2_with fail
      refine (v_alloc W5.heap.size bg 256 1 0 3 (some ⟨W5.heap.size + 1, 0, none⟩) 1 [1] Fg cs [] _ hv7.out (HB5.out.chg c7.out (fun _ _ h => h)) (fun h => by have := HI5.out _ h; omega) (by omega) (by simp) (reads_new _ [1] _ (by simp)) (fun ad e h => by cases e; have := HI5.out _ h; simp at this; omega) (fun ad e => by cases e; show W5.heap.size + 1 ≠ W5.heap.size; omega) (by simp) (by simp)).mono ?_
      rintro e W8 ⟨rfl, F8, vs8, B8, V8, G8⟩
      have e8 : alNext 256 1 [1].length = 2 := by decide
      rw [e8] at B8
      have HB8 := keepH B8
      have HM8 : Hid (IsMem W8 mg bg) := (HM5.out.chg c7.out (fun h => h)).chg G8.chg (fun h => h.elim HN5.out (fun e => by have := HM5.out.lt; omega))
      have C8 : Hid (Chg (fun _ => False) wr W8) := (HC5.out.trans c7.out (fun _ _ x => x) (fun _ _ x => x)).trans G8.chg (fun _ _ x => x) (fun i hi x => x.elim (fun y => by have := K5.out i y; omega) (fun y => by have := HC5.out.size; omega))
      clear B8 V8 G8
      go_wp2_with fail
      refine (a_live _).mono ?_
      rintro e W9 ⟨rfl, C9⟩
      have HV9 := keepH (HV.out.quiet (C8.out.trans C9 (fun _ _ x => x) (fun _ _ x => x)))
      have HB9 := keepH (HB8.out.chg C9 (fun _ _ h => h))
      have HM9 := keepH (HM8.out.chg C9 (fun h => h))
      clear C9 C8 HB8 HM8 HV c7 hv7 HM5 HB5 HN5 HI5 HC5 K5
      go_wp2_with fail
      refine (v_accesses _ _ _ _ _ HV9.out.sa).mono ?_
      rintro e w' ⟨rfl, rfl⟩
      go_wp2_with fail
      refine (v_accesses _ _ _ _ _ HV9.out.sb).mono ?_
      rintro e w' ⟨rfl, rfl⟩
      go_wp2_with fail
      refine (m_trace _ _ _ _ _ _ _ _ HV9.out.mem HV9.out.bank hl1 hvl.out).mono ?_
      rintro e wa ⟨pa, ca, la, rfl, Ta⟩
      have HVa := keepH (HV9.out.quiet Ta.chg)
      have HBa := keepH (HB9.out.chg Ta.chg (fun _ _ h => h))
      have HMa := keepH (HM9.out.chg Ta.chg (fun h => h))
      have hl := HL.out
      clear Ta HV9 HB9 HM9
      go_wp2_with fail
      refine (m_trace _ _ _ _ _ _ _ _ HVa.out.memf HVa.out.bankf (by simp) (by simp)).mono ?_
      rintro e wb ⟨pb, cb, lb, rfl, Tb⟩
      have HVb := keepH (HVa.out.quiet Tb.chg)
      have HBb := keepH (HBa.out.chg Tb.chg (fun _ _ h => h))
      have HMb := keepH (HMa.out.chg Tb.chg (fun h => h))
      have t1 : ((256 - 1 : Nat) : Int) = 255 := by decide
      have t2 : ((256 - 2 : Nat) : Int) = 254 := by decide
      clear Tb HVa HBa HMa
      go_wp2_with fail
      refine (m_left _ _ 256 1 _ _ _ _ HVb.out.memf HVb.out.bankf).mono ?_
      rintro e w' ⟨rfl, q1, rfl⟩
      have D1 := (Goes.drewN wb (fun _ => False) q1).chg
      have HVc := keepH (HVb.out.quiet D1)
      have HBc := keepH (HBb.out.chg D1 (fun _ _ h => h))
      have HMc := keepH (HMb.out.chg D1 (fun h => h))
      clear D1
      go_wp2_with fail
      refine (m_left _ _ 256 2 _ _ _ _ HMc.out HBc.out).mono ?_
      rintro e w' ⟨rfl, q2, rfl⟩
      have D2 := (Goes.drewN wb (fun _ => False) (q1 + q2)).chg
      have HVd := keepH (HVb.out.quiet D2)
      clear D2 HVc HBc HMc
      go_wp2_with fail
      refine (m_left _ _ 256 1 _ _ _ _ HVd.out.mem HVd.out.bank).mono ?_
      rintro e w' ⟨rfl, q3, rfl⟩
      have D3 := (Goes.drewN wb (fun _ => False) (q1 + q2 + q3)).chg
      have HVe := keepH (HVb.out.quiet D3)
      have HBe := keepH (HBb.out.chg D3 (fun _ _ h => h))
      have HMe := keepH (HMb.out.chg D3 (fun h => h))
      clear D3 HVd HVb HBb HMb
      go_wp2_with fail
      refine (m_trace _ _ _ _ _ _ _ _ HMe.out HBe.out (by simp) (by simp)).mono ?_
      rintro e wf ⟨pf, cf, lf, rfl, Tf⟩
      have HF := keepH (HVe.out.chg.trans Tf.chg (H := fun k => w.heap.size ≤ k) (fun _ _ x => x.elim) (fun _ _ x => x.elim))
      clear Tf HVe HBe HMe
      go_wp2_with fail
      go_ret
      exact ⟨by simp, HF.out.below (Nat.le_refl _)⟩

set_option maxRecDepth 100000 in
theorem lifted (os : Os) (started : os.Started) (H : Type) (enc : TypeId × Value → H) (F : Stop.Interp) :
    ReturnsInHanded {} Try.checked os 4 .any ((Rows.OpenSpec.upto Rows.arenaViewsSpec).pre6 enc Try.prog Try.f4 Rows.arenaViewsUptoRow.domain false) (((Rows.OpenSpec.upto Rows.arenaViewsSpec).at F).post enc Try.prog Try.f4 false true false false) := by
  refine returnsInHanded_of_cond (C := Try.checked) (s := Rows.OpenSpec.upto Rows.arenaViewsSpec) (k := Rows.uptoSmall) rfl own started (by kernel_rfl) Try.func4
    (OpenSpec.witness (enc := enc) (C := Try.checked) (s := Rows.OpenSpec.upto Rows.arenaViewsSpec) (k := Rows.uptoSmall) rfl false ⟨#[], #[.slice none 0 0], []⟩ 8 (by kernel_rfl) (by kernel_rfl) (by kernel_rfl)
      (x := ([.nil], [], [])) (by kernel_rfl) rfl (by kernel_rfl)) ?_
  intro W base args ds gs before hval0 hW _ hk _
  have hval : ∀ (j : Nat) t v, Try.f4.params[j]? = some t → args[j]? = some v → Value.okWide Try.prog W .any base t v := hval0
  have hW' := hW
  obtain ⟨p, q, hA0, hV, rfl, hfz, hnd⟩ := hW
  have hA : DataW.TrodAll enc Try.prog W 0 (fun _ => true) true Try.f4.params.toList args.toList ds p := hA0
  rw [Try.params4] at hA hval
  obtain ⟨v0, vs0, d0, ds0, p0, q0, hargs, rfl, rfl, h0, r0⟩ := trodAll_cons hA
  obtain ⟨rfl, rfl, rfl⟩ := trodAll_nil r0
  obtain rfl : args = #[v0] := by cases args; simp_all
  obtain ⟨rfl, rfl⟩ := trodVars_none hV
  have k0 := h0
  have lt0 : ∀ x ∈ p0, x.block < W.heap.size := by obtain ⟨m, hm⟩ := k0; exact DataW.trod_lt m _ _ _ hm
  obtain ⟨p', n, c, rfl⟩ := okWide_slice Try.underlying22 (hval 0 22 v0 rfl rfl)
  obtain ⟨ops, hlen, hS, hbk⟩ := script_open h0
  simp only [List.append_nil] at hW' hk
  have hb : Rows.uptoBulkAll [d0] ≤ 1048576 := of_decide_eq_true hk
  have hn : ops.length ≤ 1048576 := by simp only [Rows.uptoBulkAll] at hb; omega
  subst hlen
  clear hA0 hval0
  refine (walk p' c ops W hS hn).mono fun e W' ⟨he, bel⟩ => ?_
  subst he
  exact ⟨_, rfl, _, _, _, [], _, [], hW', trodAll_mk1 (shut_bool Try.underlying4 _), (trodAll_cons_mk (Below.trod laidOut (by kernel_rfl) (of_decide_eq_true (by kernel_rfl)) k0 bel lt0) trodAll_mk0), rfl, bel.frame _, fun h => by cases h⟩

theorem over : Rows.arenaViewsUptoRow.holds Try.pinned (Rows.OpenSpec.upto Rows.arenaViewsSpec) :=
  OpenClaim.holds_of_cond 4 Try.f4 rfl rfl rfl rfl rfl rfl rfl ⟨rfl, rfl, rfl, rfl, rfl⟩ rfl rfl rfl rfl rfl (by kernel_rfl) Try.func4 (by kernel_rfl)
    (of_decide_eq_true (by kernel_rfl)) (by unfold Func.isWrapper; first | (rw [if_pos (by decide +kernel)]; kernel_rfl) | (rw [if_neg (by decide +kernel)]; exact ⟨rfl, rfl⟩))
    (fun os started H enc _ F => lifted os started H enc F)
end Go.Proofs.Ytmckdefijcnhcaa.arenaViews
namespace Go.Proofs.Ytmckdefijcnhcaa
theorem arenaViews_holds : Rows.ArenaViewsUptoSaid := arenaViews.over
end Go.Proofs.Ytmckdefijcnhcaa
