/- Whatever the stamps of a row of versions, the need and the stamps that are asked for, where they hold together at most 1048576 values: a Cut leaves what a needed stamp asks for, keeps the newest version, tells how many it has left out, and each older version that it leaves is needed (shutterlaw15.CutKeeps is true for every such input). -/
import Derived.Test.YtciohnfbjaglbaaRows
import Derived.WalkKit
import Derived.ProofKit
import Derived.OpenShut
import Derived.JoinedCond
import Derived.Carry
import Derived.Lib.SmallJoins
import Derived.Test.YtciohnfbjaglbaaKz
namespace Go.Proofs.Ytciohnfbjaglbaa.cutKeeps
open Go.ChangeShapes Go.WideShapes Go.ChangeAt Go.RowKit Go.Joins Go.Shelf
set_option linter.unusedVariables false

theorem own : ownKnob Try.prog.godebug = none := by kernel_rfl
theorem laidOut : laidOutB Try.prog = true := by kernel_rfl

set_option maxRecDepth 100000 in
set_option maxHeartbeats 8000000 in
theorem walk (p q pa : Option Addr) (c cq ca F : Nat) (st l ak : List Nat) (w : World) (hS : U64At w p st) (hL : U64At w q l) (hA : U64At w pa ak) (hbs : st.length ≤ 1048576) (hbl : l.length ≤ 1048576) (hba : ak.length ≤ 1048576) :
    Calls Try.prog 5 #[.slice p st.length c, .agg #[.int .u64 (F : Int), .slice q l.length cq], .slice pa ak.length ca] w fun e w' => e = .returned (.bool true) ∧ Below w.heap.size w w' := by
  obtain ⟨w0, hw0⟩ : ∃ w0, w0 = w.alloc (.cells #[.int .u64 (F : Int), .slice q l.length cq] 25) := ⟨_, rfl⟩
  have HNB : Hid (w0.heap[w.heap.size]? = some (.cells #[.int .u64 (F : Int), .slice q l.length cq] 25 (0, 0))) := by rw [hw0]; exact heap_alloc_new _ _
  have HC0 : Hid (Chg (fun _ => False) w w0) := by rw [hw0]; exact (Chg.refl _ _).alloc _
  have HW0 := keepH hw0
  have HS := keepH hS
  have HL := keepH hL
  have HA := keepH hA
  clear hw0 hS hL hA
  go_enter Try.func5, Try.ntmps5
  go_upto_region 1 with fail
  rw [← HW0.out]
  clear HW0
  go_wp2_with fail
  refine (live_15 _).mono ?_
  rintro e w1 ⟨rfl, C1⟩
  have HC1 := keepH (HC0.out.falls C1)
  have HN1 := keepH ((C1.block _ (lt_of HNB.out) (fun x => x)).trans HNB.out)
  clear C1 HNB HC0
  go_wp2_with fail
  refine (f_falling p c st _ (HS.out.chg HC1.out (fun _ _ _ _ x => x)) (by omega)).mono ?_
  rintro e w2 ⟨v2, rfl, hv2, C2⟩
  have HC2 := keepH (HC1.out.falls C2)
  have HN2 := keepH ((C2.block _ (lt_of HN1.out) (fun x => x)).trans HN1.out)
  clear C2 HC1 HN1
  rcases hv2 with rfl | ⟨rfl, hf⟩
  · go_wp2_with fail
    go_ret
    exact ⟨by simp, (HC2.out.mono (G := fun k => w.heap.size ≤ k) (fun _ _ x => x.elim)).below (Nat.le_refl _)⟩
  have HF := keepH hf
  clear hf
  by_cases h1000 : 1000 < st.length
  · have t1 : (1000 : Int) < (st.length : Int) := by omega
    go_wp2_with fail
    go_ret
    exact ⟨by simp, (HC2.out.mono (G := fun k => w.heap.size ≤ k) (fun _ _ x => x.elim)).below (Nat.le_refl _)⟩
  have t1 : ¬ (1000 : Int) < (st.length : Int) := by omega
  go_wp2_with fail
  refine (m_new 8192 w2 (by omega)).mono ?_
  rintro e w3 ⟨rfl, M3, B3, C3, S3⟩
  have HM3 := keepH M3
  have HB3 := keepH B3
  have HC3 := keepH C3
  have HS3 : Hid (w2.heap.size + 2 ≤ w3.heap.size) := by show _ ≤ _; omega
  clear M3 B3 C3 S3
  go_wp2_with fail
  refine (m_view _ w2.heap.size 0 _ HM3.out).mono ?_
  rintro e w' ⟨rfl, rfl⟩
  obtain ⟨w4, hw4⟩ : ∃ w4, w4 = w3.alloc (.cells #[.iface 70 (.pointer (some ⟨w2.heap.size, 0, none⟩)), .int .i64 0, .int .i64 0] 73) := ⟨_, rfl⟩
  have HB4 : Hid (SB w2 (w2.heap.size + 1) w2.heap.size w3.heap.size 0 8192 w4 1 0 [] [] (fun _ => False)) := by
    rw [hw4]
    exact SB.new0 (D := fun _ => False) HM3.out HB3.out HC3.out HS3.out
  rw [← hw4]
  clear hw4 HM3 HB3 HC3 HS3
  obtain ⟨v, hv⟩ : ∃ v, v = w3.heap.size := ⟨_, rfl⟩
  rw [← hv] at HB4 ⊢
  clear hv
  obtain ⟨m, hm⟩ : ∃ m, m = w2.heap.size + 1 := ⟨_, rfl⟩
  rw [← hm] at HB4 ⊢
  clear hm
  obtain ⟨b, hb⟩ : ∃ b, b = w2.heap.size := ⟨_, rfl⟩
  rw [← hb] at HB4
  clear hb
  have HS2 := keepH (HS.out.chg HC2.out (fun _ _ _ _ x => x))
  have HL2 := keepH (HL.out.chg HC2.out (fun _ _ _ _ x => x))
  have HA2 := keepH (HA.out.chg HC2.out (fun _ _ _ _ x => x))
  clear HS HL HA
  go_wp2_with fail
  refine (f_row HB4.out p c st HS2.out (by omega) (by omega)).mono ?_
  rintro e w5 ⟨rfl, cs, t, S5, hT5, hR5, hK5, _⟩
  have HB5 := keepH S5
  have HT5 := keepH hT5
  have HR5 := keepH hR5
  have HK5 := keepH hK5
  clear S5 hT5 hR5 hK5 HB4
  obtain ⟨O, hO⟩ : ∃ O, O = 1 + 3 * st.length := ⟨_, rfl⟩
  have HO := keepH hO
  rw [← hO]
  have bO : O < 18446744073709551616 := by omega
  clear hO
  have HSm : Hid (∀ i, cellN cs i < 18446744073709551616) := HB5.out.small
  obtain ⟨F5, l5, M5, B5, _, _, _⟩ := HB5.out.mem
  have HM5 := keepH M5
  have HBk5 := keepH B5
  clear M5 B5
  go_wp2_with fail
  refine (versions_any m b 8192 _ O F5 cs l5 _ HM5.out HBk5.out bO (by omega)).mono ?_
  rintro e w6 ⟨K, v1, rfl, T6, V6⟩
  obtain rfl : K = st.length := T6.one (by rw [HO.out]; exact was_stops HR5.out HK5.out (by omega))
  have HV6 := keepH V6
  have HB6 : Hid (SB w2 m b v 0 8192 w6 (2 + 3 * st.length) (st.length + 1) cs t (fun k => v1.ownBlock = some k)) := HB5.out.grow (V6.chg.mono (fun _ _ x => x.elim)) (fun k e => .inr (V6.new k e)) (fun k e => row_lt V6.row k e)
  have n0 : w6.cell? ⟨w.heap.size, 0, none⟩ = some (.int .u64 (F : Int)) := cell_of ((HB6.out.chg.block _ (lt_of HN2.out) (fun x => x)).trans HN2.out) 0
  have n1 : w6.cell? ⟨w.heap.size, 1, none⟩ = some (.slice q l.length cq) := cell_of ((HB6.out.chg.block _ (lt_of HN2.out) (fun x => x)).trans HN2.out) 1
  clear T6 V6 HB5 HM5 HBk5
  go_wp2_with fail
  refine (k_new 1 O F q cq l _ (HL2.out.chg HB6.out.chg (fun _ _ _ _ x => x)) (by omega) HL2.out.small).mono ?_
  rintro e w7 ⟨pc, q7, d7, rfl, hp7, hI7, hU7, hq7, hC7⟩
  have HK7 : Hid (KS w2 m b v 0 8192 w7 (2 + 3 * st.length) (st.length + 1) cs t (fun k => v1.ownBlock = some k) pc F q7 d7 l (CutS.new (1 + 3 * st.length))) := by
    have := KS.start HB6.out hC7 hp7 hI7 hU7 hq7 bO (by omega)
    rw [HO.out] at this
    exact this
  have HR1 : Hid (w7.ownsRow 0 59 2 v1 st.length (verRow cs O st.length)) := row_kept HV6.out.row fun k e => hC7.block k (row_lt HV6.out.row k e) (fun x => x)
  clear hp7 hI7 hU7 hq7 hC7 HB6 HV6 n0 n1
  go_wp2_with fail
  refine (alone_keeps (st := st) HK7.out HF.out (by omega) (by omega) (by omega) HR5.out HK5.out (by omega) (by rw [HT5.out]; omega)).mono ?_
  rintro e w8 ⟨rfl, ⟨made8, cs8, t8, s8, M, K8, P8⟩, E8⟩
  have HK8 := keepH K8
  have HP8 := keepH P8
  have HR8 : Hid (w8.ownsRow 0 59 2 v1 st.length (verRow cs O st.length)) := row_kept HR1.out fun k e => E8 k e
  clear K8 P8 E8 HK7 HR1
  obtain ⟨F8, l8, M8, B8, _, hD8, _⟩ := HK8.out.sb.mem
  have HM8 := keepH M8
  have HBk8 := keepH B8
  clear M8 B8 hD8
  go_wp2_with fail
  refine (versions_any m b 8192 _ O F8 cs8 l8 _ HM8.out HBk8.out bO (by omega)).mono ?_
  rintro e w9 ⟨K, v2, rfl, T9, V9⟩
  obtain rfl : K = M := T9.one (by rw [HO.out]; exact now_stops HP8.out (by omega))
  have HR9 : Hid (w9.ownsRow 0 59 2 v1 st.length (verRow cs O st.length)) := row_kept HR8.out fun k e => V9.chg.block k (row_lt HR8.out k e) (fun x => x)
  have HQ9 := keepH V9.row
  have HI9 := keepH (HK8.out.cut.chg V9.chg (fun x => x))
  have HC9 : Hid (Chg (fun _ => False) w2 w9) := HK8.out.sb.chg.falls V9.chg
  have HKM := keepH HP8.out.le
  clear T9 V9 HM8 HBk8 HR8
  obtain ⟨pv1, cv1, rfl⟩ := slice_of HR9.out
  obtain ⟨pv2, cv2, rfl⟩ := slice_of HQ9.out
  obtain ⟨cnt, hcnt⟩ : ∃ cnt, cnt = s8.cnt := ⟨_, rfl⟩
  have HCnt : Hid (∀ k, Calls Try.prog 17 #[.pointer (some ⟨pc, 0, none⟩)] (w9.drewN k) fun e W' => e = .returned (.int .u64 (cnt : Int)) ∧ W' = w9.drewN k) := fun k => by rw [hcnt]; exact k_count pc F _ _ _ (HI9.out.chg (Goes.drewN w9 (fun _ => False) k).chg (fun x => x)) HP8.out.nx
  have kl : K ≤ st.length := HKM.out
  have ec : cnt + K = st.length := by rw [hcnt]; exact HP8.out.cnt
  have a1 : IntKind.u64.wrap (K : Int) = (K : Int) := u64_lt (by omega)
  have a2 : IntKind.u64.wrap (st.length : Int) = (st.length : Int) := u64_lt (by omega)
  have a3 : IntKind.u64.wrap ((K : Int) + (cnt : Int)) = (st.length : Int) := by rw [IntKind.wrap_u64]; omega
  have HEC := keepH ec
  clear hcnt ec kl
  go_upto_region 15 with fail
  go_cut [97] from 53 to 97 (fun s97 wz => s97 = .bool false ∧ Hid (∃ k, wz = w9.drewN k))
  case first =>
    by_cases hz : st.length = 0
    · have z1 : ¬ (0 : Int) < (st.length : Int) := by omega
      have z2 : decide ((0 : Int) < (st.length : Int)) = false := decide_eq_false z1
      have z3 : decide (0 < st.length) = false := decide_eq_false (by omega)
      have HZ := keepH hz
      clear hz
      go_quiet (first | (go_at_call 17; refine (HCnt.out _).mono ?_; rintro x y ⟨rfl, rfl⟩; exact ⟨rfl, _, rfl⟩))
      try go_wp2_with fail
      go_meet
      exact ⟨by first | rfl | trivial, keepH ⟨_, rfl⟩⟩
    · have hz1 : 0 < st.length := by omega
      have z1 : (0 : Int) < (st.length : Int) := by omega
      have z2 : decide ((0 : Int) < (st.length : Int)) = true := decide_eq_true z1
      have z3 : decide (0 < st.length) = true := decide_eq_true hz1
      have k0 : 0 < K := by
        by_cases e : K = 0
        · have := HP8.out.fin
          rw [e] at this
          have e2 : itN F l st st.length 0 = 0 := rfl
          omega
        · omega
      have z4 : ((K : Int) == 0) = false := beq_eq_false_iff_ne.2 (by omega)
      have z5 : (0 : Int) < (K : Int) := by omega
      have HHd : Hid (∀ k, Calls Try.prog 18 #[.pointer (some ⟨pc, 0, none⟩)] (w9.drewN k) fun e W' => e = .returned (.int .u64 1) ∧ W' = w9.drewN k) := fun k => by
        have := k_head pc F _ _ _ (HI9.out.chg (Goes.drewN w9 (fun _ => False) k).chg (fun x => x)) HP8.out.nx
        rw [HP8.out.head hz1] at this
        exact this
      obtain ⟨s0, hs0⟩ : ∃ s0, s0 = stA st 0 := ⟨_, rfl⟩
      obtain ⟨g1, cg1, hg1⟩ := slice_pos HR9.out hz1
      obtain ⟨g2, cg2, hg2⟩ := slice_pos HQ9.out k0
      simp only [Value.slice.injEq, true_and] at hg1 hg2
      obtain ⟨rfl, rfl⟩ := hg1
      obtain ⟨rfl, rfl⟩ := hg2
      have w1 := was_V HR5.out HK5.out hz1
      have w2' := now_V HP8.out k0
      rw [← HO.out] at w1 w2'
      have e1 := verRow_get cs O st.length 0 hz1
      have e2 := verRow_get cs8 O K 0 k0
      have y1 : w9.cell? ⟨g1, 0, none⟩ = some (.int .u64 1) := (ver_cell HR9.out 0 _ e1.1).trans (by show some (Value.int .u64 (verV cs O 0 : Int)) = _; rw [w1.1]; rfl)
      have y2 : w9.cell? ⟨g1, 1, none⟩ = some (.int .u64 (s0 : Int)) := (ver_cell HR9.out 1 _ e1.2).trans (by show some (Value.int .u64 (verS cs O 0 : Int)) = _; rw [w1.2, hs0])
      have y3 : w9.cell? ⟨g2, 0, none⟩ = some (.int .u64 1) := (ver_cell HQ9.out 0 _ e2.1).trans (by show some (Value.int .u64 (verV cs8 O 0 : Int)) = _; rw [w2'.1]; rfl)
      have y4 : w9.cell? ⟨g2, 1, none⟩ = some (.int .u64 (s0 : Int)) := (ver_cell HQ9.out 1 _ e2.2).trans (by show some (Value.int .u64 (verS cs8 O 0 : Int)) = _; rw [w2'.2, hs0]; rfl)
      have bs0 : s0 < 18446744073709551616 := by
        rw [hs0]
        obtain ⟨x, hx⟩ : ∃ x, st[0]? = some x := ⟨st[0], List.getElem?_eq_getElem hz1⟩
        rw [stA_get hx]
        exact HS2.out.small x (List.mem_of_getElem? hx)
      have hnq : ∀ w', (binOp .neq 59 (.agg #[.int .u64 1, .int .u64 (s0 : Int)]) (.agg #[.int .u64 1, .int .u64 (s0 : Int)])).run Try.prog w' = .ok (.bool false) w' := fun w' => by
        have := ver_neq 1 s0 1 s0 (by omega) bs0 (by omega) bs0 w'
        simpa using this
      clear hz hz1 w1 w2' e1 e2 hs0 bs0 k0
      go_quiet (first | (go_at_call 17; refine (HCnt.out _).mono ?_; rintro x y ⟨rfl, rfl⟩; exact ⟨rfl, _, rfl⟩) | (go_at_call 18; refine (HHd.out _).mono ?_; rintro x y ⟨rfl, rfl⟩; exact ⟨rfl, _, rfl⟩))
      try go_wp2_with fail
      go_meet
      exact ⟨by first | rfl | trivial, keepH ⟨_, rfl⟩⟩
  case rest =>
    obtain ⟨wx, hwx⟩ : ∃ wx, wx = wc := ⟨_, rfl⟩
    rw [← hwx] at hcut ⊢
    clear hwx
    obtain ⟨rfl, HZ⟩ := hcut
    obtain ⟨k9, hk9⟩ := HZ.out
    have CW : Chg (fun _ => False) w2 wx := by rw [hk9]; exact HC9.out.falls (Goes.drewN w9 (fun _ => False) k9).chg
    have HCW := keepH CW
    have HRc : Hid (wx.ownsRow 0 59 2 (.slice pv1 st.length cv1) st.length (verRow cs O st.length)) := by rw [hk9]; exact row_kept (W := w9) HR9.out fun k _ => rfl
    have HQc : Hid (wx.ownsRow 0 59 2 (.slice pv2 K cv2) K (verRow cs8 O K)) := by rw [hk9]; exact row_kept (W := w9) HQ9.out fun k _ => rfl
    have HNc := keepH ((CW.block _ (lt_of HN2.out) (fun x => x)).trans HN2.out)
    have n1 : wx.cell? ⟨w.heap.size, 1, none⟩ = some (.slice q l.length cq) := cell_of HNc.out 1
    have n1b : ∀ o, (wx.alloc o).cell? ⟨w.heap.size, 1, none⟩ = some (.slice q l.length cq) := fun o => cell_of (alloc_of HNc.out o) 1
    have n1d : ∀ o, (wx.drew.alloc o).cell? ⟨w.heap.size, 1, none⟩ = some (.slice q l.length cq) := fun o => cell_of (alloc_of (W := wx.drew) HNc.out o) 1
    clear hk9 HZ CW HR9 HQ9 HI9 HC9 HCnt HK8 a1 a2 a3
    go_upto_region 17 with fail
    go_cut [14] from 98 to 103 (fun s14 wz => Hid (wz.ownsRow 0 22 1 s14 (ak ++ l).length ((ak ++ l).map u64V) ∧ Chg (fun _ => False) wx wz))
    case first =>
      have HAc : Hid (U64At (wx.drew.alloc (.cells #[] 22)) pa ak) := HA2.out.chg (HCW.out.drew.alloc _) (fun _ _ _ _ x => x)
      have HLc : Hid (U64At wx q l) := HL2.out.chg HCW.out (fun _ _ _ _ x => x)
      go_region_law (first | (obtain ⟨va, wa, hra, rowa, ga, ba⟩ := app_any (W := wx.drew.alloc (.cells #[] 22)) (c := ca) (row_empty (heap_alloc_new wx.drew (.cells #[] 22))) HAc.out (by simp; omega) 23; refine step_append_run rfl (.tmp 98) (.tmp 99) 23 rfl _ _ va wa rfl rfl hra ?_; have HRa := keepH rowa; have HGa : Hid (Chg (fun _ => False) wx wa) := (((Chg.refl (fun _ => False) wx).drew.alloc _).grown ga (fun k e hk => by simp [Value.ownBlock] at e; omega)); have HBa : Hid (∀ k, va.ownBlock = some k → wx.heap.size ≤ k) := (fun k e => by rcases ba with e2 | e2 <;> rw [e2] at e <;> simp [Value.ownBlock] at e <;> omega); have n1a : wa.cell? ⟨w.heap.size, 1, none⟩ = some (.slice q l.length cq) := cell_of ((HGa.out.block _ (lt_of HNc.out) (fun x => x)).trans HNc.out) 1; clear hra rowa ga ba) | (obtain ⟨vb, wb, hrb, rowb, gb, bb⟩ := app_any (W := wa) (c := cq) HRa.out (HLc.out.chg HGa.out (fun _ _ _ _ x => x)) (by simp; omega) 23; refine step_append_run rfl (.tmp 100) (.tmp 102) 23 rfl _ _ vb wb rfl rfl hrb ?_; have HRb := keepH rowb; have HGb : Hid (Chg (fun _ => False) wx wb) := (HGa.out.grown gb (fun k e hk => by have := HBa.out k e; omega)); clear hrb rowb gb bb))
      all_goals (try go_wp2_with fail)
      all_goals go_meet
      all_goals exact keepH ⟨HRb.out, HGb.out⟩
    case rest =>
      obtain ⟨wd, hwd⟩ : ∃ wd, wd = wc := ⟨_, rfl⟩
      rw [← hwd] at hcut ⊢
      clear hwd
      obtain ⟨hRd, hCd⟩ := hcut.out
      obtain ⟨pd, cd, rfl⟩ := slice_of hRd
      have HRd := keepH hRd
      have HRe : Hid (wd.ownsRow 0 59 2 (.slice pv1 st.length cv1) st.length (verRow cs O st.length)) := row_kept HRc.out fun k e => hCd.block k (row_lt HRc.out k e) (fun x => x)
      have HQe : Hid (wd.ownsRow 0 59 2 (.slice pv2 K cv2) K (verRow cs8 O K)) := row_kept HQc.out fun k e => hCd.block k (row_lt HQc.out k e) (fun x => x)
      have HNd := keepH ((hCd.block _ (lt_of HNc.out) (fun x => x)).trans HNc.out)
      have HCd : Hid (Chg (fun _ => False) w2 wd) := HCW.out.falls hCd
      have HLd : Hid (U64At wd q l) := HL2.out.chg HCd.out (fun _ _ _ _ x => x)
      have hsm : ∀ x ∈ ak ++ l, x < 18446744073709551616 := fun x hx => (List.mem_append.1 hx).elim (HA2.out.small x) (HL2.out.small x)
      have HSmA := keepH hsm
      obtain ⟨al, hal⟩ : ∃ al, al = ak ++ l := ⟨_, rfl⟩
      have hla : al.length ≤ 2097152 := by rw [hal]; simp; omega
      rw [← hal] at HRd HSmA hRd hcut ⊢
      clear hRd hCd hcut HRc HQc HNc HCW hal hsm n1 n1b n1d
      go_wp2_with fail
      go_loopw [15] (fun s wr => ∃ k : Nat, k ≤ al.length ∧ s = .int .i64 (k : Int) ∧ Hid (Chg (fun _ => False) wd wr)) (fun s _ => al.length - (intOf s).toNat)
      case atStart => exact ⟨0, by omega, rfl, keepH (Chg.refl _ _)⟩
      case round =>
        obtain ⟨k, hk, rfl, HR⟩ := hrel
        by_cases hlt : k < al.length
        · have t2 : (k : Int) < (al.length : Int) := by omega
          obtain ⟨x, hx⟩ : ∃ x, al[k]? = some x := ⟨al[k], List.getElem?_eq_getElem hlt⟩
          have bx : x < 18446744073709551616 := HSmA.out x (List.mem_of_getElem? hx)
          obtain ⟨ga, cga, hga⟩ := slice_pos HRd.out (by omega)
          simp only [Value.slice.injEq, true_and] at hga
          obtain ⟨rfl, rfl⟩ := hga
          have HXr : Hid (∀ z, Chg (fun _ => False) wd z → z.cell? ⟨ga, k, none⟩ = some (.int .u64 (x : Int))) := fun z hz => by
            have r := row_kept HRd.out fun k e => hz.block k (row_lt HRd.out k e) (fun x => x)
            rw [World.ownsRow.cellAt r k (by omega)]
            simp [u64V, hx]
          have HNr : Hid (∀ z, Chg (fun _ => False) wd z → z.heap[w.heap.size]? = some (.cells #[.int .u64 (F : Int), .slice q l.length cq] 25 (0, 0))) := fun z hz => (hz.block _ (lt_of HNd.out) (fun x => x)).trans HNd.out
          obtain ⟨x1, hx1⟩ : ∃ x1, x1 = addP x 1 := ⟨_, rfl⟩
          have wx1 : IntKind.u64.wrap ((x : Int) + 1) = (x1 : Int) := by rw [hx1]; exact wrap_addP1 x
          have HCr : Hid (Chg (fun _ => False) wd wr.drew) := HR.out.drew
          have HS0 : Hid (wr.cell? ⟨w.heap.size, 0, none⟩ = some (.int .u64 (F : Int)) ∧ wr.cell? ⟨w.heap.size, 1, none⟩ = some (.slice q l.length cq) ∧ wr.cell? ⟨ga, k, none⟩ = some (.int .u64 (x : Int))) := ⟨cell_of (HNr.out wr HR.out) 0, cell_of (HNr.out wr HR.out) 1, HXr.out wr HR.out⟩
          have HX1 := keepH hx1
          clear hx hx1
          by_cases hnd : ndN F l x x1 = true
          · have HS := at_same HF.out HR5.out HK5.out HP8.out bx (by rw [← HX1.out]; exact hnd)
            rw [← HO.out] at HS
            obtain ⟨A, hA⟩ : ∃ A, A = atV cs O st.length x := ⟨_, rfl⟩
            obtain ⟨B, hB⟩ : ∃ B, B = atS cs O st.length x := ⟨_, rfl⟩
            have bA : A < 18446744073709551616 := by rw [hA]; unfold atV; split; exact HSm.out _; omega
            have bB : B < 18446744073709551616 := by rw [hB]; unfold atS; split; exact HSm.out _; omega
            have hnq : ∀ w', (binOp .neq 59 (.agg #[.int .u64 (A : Int), .int .u64 (B : Int)]) (.agg #[.int .u64 (A : Int), .int .u64 (B : Int)])).run Try.prog w' = .ok (.bool false) w' := fun w' => by
              have := ver_neq A B A B bA bB bA bB w'
              simpa using this
            have HAt : Hid (∀ vv z, (vv = Value.slice pv1 st.length cv1 ∨ vv = Value.slice pv2 K cv2) → Chg (fun _ => False) wd z → Calls Try.prog 25 #[vv, .int .u64 (x : Int)] z fun e W' => e = .returned (.agg #[.int .u64 (A : Int), .int .u64 (B : Int)]) ∧ Chg (fun _ => False) z W') := fun vv z hvv hz => by
              rcases hvv with rfl | rfl
              · rw [hA, hB]
                exact f_at cs O st.length x _ z (row_kept HRe.out fun k e => hz.block k (row_lt HRe.out k e) (fun x => x)) (by omega)
              · rw [hA, hB, ← HS.1, ← HS.2]
                exact f_at cs8 O K x _ z (row_kept HQe.out fun k e => hz.block k (row_lt HQe.out k e) (fun x => x)) (by have := HKM.out; omega)
            have HND := keepH hnd
            clear HS hA hB hnd
            go_upto_region 21 with fail
            go_cut [135] from 104 to 135 (fun s135 wz => s135 = .bool false ∧ Hid (Chg (fun _ => False) wd wz))
            case first =>
              go_region_held3 (fun w' => w'.cell? ⟨w.heap.size, 0, none⟩ = some (.int .u64 (F : Int)) ∧ w'.cell? ⟨w.heap.size, 1, none⟩ = some (.slice q l.length cq) ∧ w'.cell? ⟨ga, k, none⟩ = some (.int .u64 (x : Int))) (first | exact HS0.out | exact hS5) (first
                | (go_at_call 8; refine (r_needed F x x1 q cq l _ (HLd.out.chg HCr.out (fun _ _ _ _ x => x)) (by omega)).mono ?_; rintro e y1 ⟨rfl, C2⟩; rw [HND.out]; replace HCr : Hid (Chg (fun _ => False) wd y1) := HCr.out.falls C2; have hS5 : y1.cell? ⟨w.heap.size, 0, none⟩ = some (.int .u64 (F : Int)) ∧ y1.cell? ⟨w.heap.size, 1, none⟩ = some (.slice q l.length cq) ∧ y1.cell? ⟨ga, k, none⟩ = some (.int .u64 (x : Int)) := ⟨cell_of (HNr.out y1 HCr.out) 0, cell_of (HNr.out y1 HCr.out) 1, (HXr.out y1 HCr.out)⟩; clear C2)
                | (go_at_call 25; refine (HAt.out _ _ (by first | exact Or.inl rfl | exact Or.inr rfl) HCr.out).mono ?_; rintro e y2 ⟨rfl, C2⟩; replace HCr : Hid (Chg (fun _ => False) wd y2) := HCr.out.falls C2; have hS5 : y2.cell? ⟨w.heap.size, 0, none⟩ = some (.int .u64 (F : Int)) ∧ y2.cell? ⟨w.heap.size, 1, none⟩ = some (.slice q l.length cq) ∧ y2.cell? ⟨ga, k, none⟩ = some (.int .u64 (x : Int)) := ⟨cell_of (HNr.out y2 HCr.out) 0, cell_of (HNr.out y2 HCr.out) 1, (HXr.out y2 HCr.out)⟩; clear C2))
              all_goals (try go_wp2_with fail)
              all_goals go_meet
              all_goals exact ⟨by first | rfl | trivial, HCr⟩
            case rest =>
              obtain ⟨we, hwe⟩ : ∃ we, we = wc := ⟨_, rfl⟩
              rw [← hwe] at hcut ⊢
              clear hwe
              obtain ⟨rfl, HCe⟩ := hcut
              go_wp2_with fail
              go_roundw
              case rel => exact ⟨k + 1, by omega, by go_num, HCe⟩
              case measure => simp [intOf]; omega
          · have hnF : ndN F l x x1 = false := by simpa using hnd
            have HND := keepH hnF
            clear hnd hnF
            go_upto_region 21 with fail
            go_cut [135] from 104 to 135 (fun s135 wz => s135 = .bool false ∧ Hid (Chg (fun _ => False) wd wz))
            case first =>
              have HS0d := HS0.out
              refine wp_region_held_drew (S := (fun w' => w'.cell? ⟨w.heap.size, 0, none⟩ = some (.int .u64 (F : Int)) ∧ w'.cell? ⟨w.heap.size, 1, none⟩ = some (.slice q l.length cq) ∧ w'.cell? ⟨ga, k, none⟩ = some (.int .u64 (x : Int)))) (by kernel_rfl) (HS0d) ?_
              intro hHeld
              refine wpAnyH_take (i := 1) (v := ?_) rfl (by kernel_rfl) (by kernel_rfl) (by kernel_rfl) (fun _ _ _ h => h) (Or.inl ⟨by rfl, ?_⟩) hHeld ?_
              rotate_left
              · intro w hSw
                (try dsimp only at hSw)
                go_simp
                try with_reducible rfl
              (try simp only [Act.put]); (try simp only [List.setIfInBounds_toArray]); (repeat (first | simp only [List.set_cons_succ] | simp only [List.set_cons_zero]))
              refine wpAnyH_take (i := 2) (v := ?_) rfl (by kernel_rfl) (by kernel_rfl) (by kernel_rfl) (fun _ _ _ h => h) (Or.inl ⟨by rfl, ?_⟩) hHeld ?_
              rotate_left
              · intro w hSw
                (try dsimp only at hSw)
                go_simp
                try with_reducible rfl
              (try simp only [Act.put]); (try simp only [List.setIfInBounds_toArray]); (repeat (first | simp only [List.set_cons_succ] | simp only [List.set_cons_zero]))
              refine wpAnyH_take (i := 3) (v := ?_) rfl (by kernel_rfl) (by kernel_rfl) (by kernel_rfl) (fun _ _ _ h => h) (Or.inl ⟨by rfl, ?_⟩) hHeld ?_
              rotate_left
              · intro w hSw
                (try dsimp only at hSw)
                go_simp
                try with_reducible rfl
              (try simp only [Act.put]); (try simp only [List.setIfInBounds_toArray]); (repeat (first | simp only [List.set_cons_succ] | simp only [List.set_cons_zero]))
              refine wpAnyH_take (i := 5) (v := ?_) rfl (by kernel_rfl) (by kernel_rfl) (by kernel_rfl) (fun _ _ _ h => h) (Or.inl ⟨by rfl, ?_⟩) hHeld ?_
              rotate_left
              · intro w hSw
                (try dsimp only at hSw)
                go_simp
                try with_reducible rfl
              (try simp only [Act.put]); (try simp only [List.setIfInBounds_toArray]); (repeat (first | simp only [List.set_cons_succ] | simp only [List.set_cons_zero]))
              refine wpAnyH_take (i := 6) (v := ?_) rfl (by kernel_rfl) (by kernel_rfl) (by kernel_rfl) (fun _ _ _ h => h) (Or.inl ⟨by rfl, ?_⟩) hHeld ?_
              rotate_left
              · intro w hSw
                (try dsimp only at hSw)
                go_simp
                try with_reducible rfl
              (try simp only [Act.put]); (try simp only [List.setIfInBounds_toArray]); (repeat (first | simp only [List.set_cons_succ] | simp only [List.set_cons_zero]))
              refine wpAnyH_take (i := 7) (v := ?_) rfl (by kernel_rfl) (by kernel_rfl) (by kernel_rfl) (fun _ _ _ h => h) (Or.inl ⟨by rfl, ?_⟩) hHeld ?_
              rotate_left
              · intro w hSw
                (try dsimp only at hSw)
                go_simp
                try with_reducible rfl
              (try simp only [Act.put]); (try simp only [List.setIfInBounds_toArray]); (repeat (first | simp only [List.set_cons_succ] | simp only [List.set_cons_zero]))
              refine wpAnyH_take (i := 0) (v := ?_) rfl (by kernel_rfl) (by kernel_rfl) (by kernel_rfl) (fun _ _ _ h => h) (Or.inl ⟨by rfl, ?_⟩) hHeld ?_
              rotate_left
              · intro w hSw
                (try dsimp only at hSw)
                go_simp
                try with_reducible rfl
              (try simp only [Act.put]); (try simp only [List.setIfInBounds_toArray]); (repeat (first | simp only [List.set_cons_succ] | simp only [List.set_cons_zero]))
              refine wpAnyH_take (i := 4) (v := ?_) rfl (by kernel_rfl) (by kernel_rfl) (by kernel_rfl) (fun _ _ _ h => h) (Or.inl ⟨by rfl, ?_⟩) hHeld ?_
              rotate_left
              · intro w hSw
                (try dsimp only at hSw)
                go_simp
                try with_reducible rfl
              (try simp only [Act.put]); (try simp only [List.setIfInBounds_toArray]); (repeat (first | simp only [List.set_cons_succ] | simp only [List.set_cons_zero]))
              refine wpAnyH_take (i := 8) (v := ?_) rfl (by kernel_rfl) (by kernel_rfl) (by kernel_rfl) (fun _ _ _ h => h) (Or.inl ⟨by rfl, ?_⟩) hHeld ?_
              rotate_left
              · intro w hSw
                (try dsimp only at hSw)
                go_simp
                try with_reducible rfl
              (try simp only [Act.put]); (try simp only [List.setIfInBounds_toArray]); (repeat (first | simp only [List.set_cons_succ] | simp only [List.set_cons_zero]))
              refine wpAnyH_take (i := 9) (v := ?_) rfl (by kernel_rfl) (by kernel_rfl) (by kernel_rfl) (fun _ _ _ h => h) (Or.inl ⟨by rfl, ?_⟩) hHeld ?_
              rotate_left
              · intro w hSw
                (try dsimp only at hSw)
                go_simp
                try with_reducible rfl
              (try simp only [Act.put]); (try simp only [List.setIfInBounds_toArray]); (repeat (first | simp only [List.set_cons_succ] | simp only [List.set_cons_zero]))
              refine wpAnyH_ready (rs := [10]) (by kernel_rfl) (by simp) ?_
              refine AllReadyH.cons rfl (fun KK hKK => ?_) AllReadyH.nil
              go_simp
              go_at_call 8
              refine (r_needed F x x1 q cq l _ (HLd.out.chg HCr.out (fun _ _ _ _ x => x)) (by omega)).mono ?_
              rintro e y1 ⟨rfl, C2⟩
              rw [HND.out]
              replace HCr : Hid (Chg (fun _ => False) wd y1) := HCr.out.falls C2
              have hS5 : y1.cell? ⟨w.heap.size, 0, none⟩ = some (.int .u64 (F : Int)) ∧ y1.cell? ⟨w.heap.size, 1, none⟩ = some (.slice q l.length cq) ∧ y1.cell? ⟨ga, k, none⟩ = some (.int .u64 (x : Int)) := ⟨cell_of (HNr.out y1 HCr.out) 0, cell_of (HNr.out y1 HCr.out) 1, (HXr.out y1 HCr.out)⟩
              clear C2
              try go_wp2_with fail
              refine hKK.out _ _ ?_ (fun hHeld => ?_)
              · exact hS5
              clear hKK KK
              (try simp only [Act.put]); (try simp only [List.setIfInBounds_toArray]); (repeat (first | simp only [List.set_cons_succ] | simp only [List.set_cons_zero]))
              refine wpAnyH_take (i := 11) (v := ?_) rfl (by kernel_rfl) (by kernel_rfl) (by kernel_rfl) (fun _ _ _ h => h) (Or.inl ⟨by rfl, ?_⟩) hHeld ?_
              rotate_left
              · intro w hSw
                (try dsimp only at hSw)
                go_simp
                try with_reducible rfl
              (try simp only [Act.put]); (try simp only [List.setIfInBounds_toArray]); (repeat (first | simp only [List.set_cons_succ] | simp only [List.set_cons_zero]))
              refine wpAnyH_take (i := 12) (v := undef) rfl (by kernel_rfl) (by kernel_rfl) (by kernel_rfl) (fun _ _ _ h => h) (Or.inr ⟨by kernel_rfl, rfl⟩) hHeld ?_
              (try simp only [Act.put]); (try simp only [List.setIfInBounds_toArray]); (repeat (first | simp only [List.set_cons_succ] | simp only [List.set_cons_zero]))
              refine wpAnyH_take (i := 13) (v := undef) rfl (by kernel_rfl) (by kernel_rfl) (by kernel_rfl) (fun _ _ _ h => h) (Or.inr ⟨by kernel_rfl, rfl⟩) hHeld ?_
              (try simp only [Act.put]); (try simp only [List.setIfInBounds_toArray]); (repeat (first | simp only [List.set_cons_succ] | simp only [List.set_cons_zero]))
              refine wpAnyH_take (i := 14) (v := undef) rfl (by kernel_rfl) (by kernel_rfl) (by kernel_rfl) (fun _ _ _ h => h) (Or.inr ⟨by kernel_rfl, rfl⟩) hHeld ?_
              (try simp only [Act.put]); (try simp only [List.setIfInBounds_toArray]); (repeat (first | simp only [List.set_cons_succ] | simp only [List.set_cons_zero]))
              refine wpAnyH_take (i := 15) (v := undef) rfl (by kernel_rfl) (by kernel_rfl) (by kernel_rfl) (fun _ _ _ h => h) (Or.inr ⟨by kernel_rfl, rfl⟩) hHeld ?_
              (try simp only [Act.put]); (try simp only [List.setIfInBounds_toArray]); (repeat (first | simp only [List.set_cons_succ] | simp only [List.set_cons_zero]))
              refine wpAnyH_take (i := 16) (v := undef) rfl (by kernel_rfl) (by kernel_rfl) (by kernel_rfl) (fun _ _ _ h => h) (Or.inr ⟨by kernel_rfl, rfl⟩) hHeld ?_
              (try simp only [Act.put]); (try simp only [List.setIfInBounds_toArray]); (repeat (first | simp only [List.set_cons_succ] | simp only [List.set_cons_zero]))
              refine wpAnyH_take (i := 17) (v := undef) rfl (by kernel_rfl) (by kernel_rfl) (by kernel_rfl) (fun _ _ _ h => h) (Or.inr ⟨by kernel_rfl, rfl⟩) hHeld ?_
              (try simp only [Act.put]); (try simp only [List.setIfInBounds_toArray]); (repeat (first | simp only [List.set_cons_succ] | simp only [List.set_cons_zero]))
              refine wpAnyH_take (i := 18) (v := undef) rfl (by kernel_rfl) (by kernel_rfl) (by kernel_rfl) (fun _ _ _ h => h) (Or.inr ⟨by kernel_rfl, rfl⟩) hHeld ?_
              (try simp only [Act.put]); (try simp only [List.setIfInBounds_toArray]); (repeat (first | simp only [List.set_cons_succ] | simp only [List.set_cons_zero]))
              refine wpAnyH_take (i := 19) (v := undef) rfl (by kernel_rfl) (by kernel_rfl) (by kernel_rfl) (fun _ _ _ h => h) (Or.inr ⟨by kernel_rfl, rfl⟩) hHeld ?_
              (try simp only [Act.put]); (try simp only [List.setIfInBounds_toArray]); (repeat (first | simp only [List.set_cons_succ] | simp only [List.set_cons_zero]))
              refine wpAnyH_take (i := 20) (v := undef) rfl (by kernel_rfl) (by kernel_rfl) (by kernel_rfl) (fun _ _ _ h => h) (Or.inr ⟨by kernel_rfl, rfl⟩) hHeld ?_
              (try simp only [Act.put]); (try simp only [List.setIfInBounds_toArray]); (repeat (first | simp only [List.set_cons_succ] | simp only [List.set_cons_zero]))
              refine wpAnyH_take (i := 21) (v := undef) rfl (by kernel_rfl) (by kernel_rfl) (by kernel_rfl) (fun _ _ _ h => h) (Or.inr ⟨by kernel_rfl, rfl⟩) hHeld ?_
              (try simp only [Act.put]); (try simp only [List.setIfInBounds_toArray]); (repeat (first | simp only [List.set_cons_succ] | simp only [List.set_cons_zero]))
              refine wpAnyH_take (i := 22) (v := undef) rfl (by kernel_rfl) (by kernel_rfl) (by kernel_rfl) (fun _ _ _ h => h) (Or.inr ⟨by kernel_rfl, rfl⟩) hHeld ?_
              (try simp only [Act.put]); (try simp only [List.setIfInBounds_toArray]); (repeat (first | simp only [List.set_cons_succ] | simp only [List.set_cons_zero]))
              refine wpAnyH_take (i := 23) (v := undef) rfl (by kernel_rfl) (by kernel_rfl) (by kernel_rfl) (fun _ _ _ h => h) (Or.inr ⟨by kernel_rfl, rfl⟩) hHeld ?_
              (try simp only [Act.put]); (try simp only [List.setIfInBounds_toArray]); (repeat (first | simp only [List.set_cons_succ] | simp only [List.set_cons_zero]))
              refine wpAnyH_take (i := 24) (v := undef) rfl (by kernel_rfl) (by kernel_rfl) (by kernel_rfl) (fun _ _ _ h => h) (Or.inr ⟨by kernel_rfl, rfl⟩) hHeld ?_
              (try simp only [Act.put]); (try simp only [List.setIfInBounds_toArray]); (repeat (first | simp only [List.set_cons_succ] | simp only [List.set_cons_zero]))
              refine wpAnyH_take (i := 25) (v := ?_) rfl (by kernel_rfl) (by kernel_rfl) (by kernel_rfl) (fun _ _ _ h => h) (Or.inl ⟨by rfl, ?_⟩) hHeld ?_
              rotate_left
              · intro w hSw
                (try dsimp only at hSw)
                go_simp
                try with_reducible rfl
              (try simp only [Act.put]); (try simp only [List.setIfInBounds_toArray]); (repeat (first | simp only [List.set_cons_succ] | simp only [List.set_cons_zero]))
              refine wpAnyH_done (by kernel_rfl) ?_ _
              go_simp

              try go_wp2_with fail
              go_meet
              exact ⟨by first | rfl | trivial, HCr⟩
            case rest =>
              obtain ⟨we, hwe⟩ : ∃ we, we = wc := ⟨_, rfl⟩
              rw [← hwe] at hcut ⊢
              clear hwe
              obtain ⟨rfl, HCe⟩ := hcut
              go_wp2_with fail
              go_roundw
              case rel => exact ⟨k + 1, by omega, by go_num, HCe⟩
              case measure => simp [intOf]; omega
        · obtain rfl : k = al.length := by omega
          have kl : K ≤ st.length := HKM.out
          obtain ⟨wo, hwo⟩ : ∃ wo, wo = wr := ⟨_, rfl⟩
          rw [← hwo] at HR ⊢
          clear hwo
          go_wp2_with fail
          go_loopw [16] (fun s wr => ∃ k : Nat, 1 ≤ k ∧ s = .int .i64 (k : Int) ∧ Hid (Chg (fun _ => False) wd wr)) (fun s _ => K + 1 - (intOf s).toNat)
          case atStart => exact ⟨1, by omega, rfl, HR⟩
          case round =>
            obtain ⟨k, hk1, rfl, HR2⟩ := hrel
            by_cases hlt : k < K
            · have t3 : (k : Int) < (K : Int) := by omega
              obtain ⟨kp, rfl⟩ : ∃ kp, k = kp + 1 := ⟨k - 1, by omega⟩
              obtain ⟨k, hk⟩ : ∃ k, k = kp + 1 := ⟨_, rfl⟩
              have HKE := keepH hk
              rw [← hk] at hlt t3 ⊢
              have hsub : (k : Int) - 1 = (kp : Int) := by omega
              have hkp : (kp : Int) < (K : Int) := by omega
              have hQr := row_kept HQe.out fun k e => HR2.out.block k (row_lt HQe.out k e) (fun x => x)
              obtain ⟨gq, cgq, hgq⟩ := slice_pos HQe.out (by omega)
              simp only [Value.slice.injEq, true_and] at hgq
              obtain ⟨rfl, rfl⟩ := hgq
              obtain ⟨sN, hsN⟩ : ∃ sN, sN = verS cs8 O kp := ⟨_, rfl⟩
              obtain ⟨sO, hsO⟩ : ∃ sO, sO = verS cs8 O k := ⟨_, rfl⟩
              have cN : wr.cell? ⟨gq, kp * 2 + 1, none⟩ = some (.int .u64 (sN : Int)) := by rw [hsN]; exact ver_cell hQr _ _ (by rw [Nat.mul_comm]; exact (verRow_get cs8 O K kp (by omega)).2)
              have HSO : Hid (∀ z, Chg (fun _ => False) wd z → z.cell? ⟨gq, k * 2 + 1, none⟩ = some (.int .u64 (sO : Int))) := fun z hz => by
                rw [hsO]
                exact ver_cell (row_kept HQe.out fun k e => hz.block k (row_lt HQe.out k e) (fun x => x)) _ _ (by rw [Nat.mul_comm]; exact (verRow_get cs8 O K k hlt).2)
              have hnd : ndN F l sO (if sN = 0 then 18446744073709551615 else sN) = true := by
                have := now_need HP8.out (k := kp) (by omega)
                rw [← HO.out, ← hsN, ← hk, ← hsO] at this
                exact this
              have HNr : Hid (∀ z, Chg (fun _ => False) wd z → z.heap[w.heap.size]? = some (.cells #[.int .u64 (F : Int), .slice q l.length cq] 25 (0, 0))) := fun z hz => (hz.block _ (lt_of HNd.out) (fun x => x)).trans HNd.out
              have HS0 : Hid (wr.cell? ⟨w.heap.size, 0, none⟩ = some (.int .u64 (F : Int)) ∧ wr.cell? ⟨w.heap.size, 1, none⟩ = some (.slice q l.length cq) ∧ wr.cell? ⟨gq, k * 2 + 1, none⟩ = some (.int .u64 (sO : Int))) := ⟨cell_of (HNr.out wr HR2.out) 0, cell_of (HNr.out wr HR2.out) 1, HSO.out wr HR2.out⟩
              have HCr : Hid (Chg (fun _ => False) wd wr.drew) := HR2.out.drew
              clear hsN hsO hk hQr
              by_cases s0 : sN = 0
              · subst s0
                rw [if_pos rfl] at hnd
                have HND := keepH hnd
                clear hnd
                go_upto_region 29 with fail
                go_region_held3 (fun w' => w'.cell? ⟨w.heap.size, 0, none⟩ = some (.int .u64 (F : Int)) ∧ w'.cell? ⟨w.heap.size, 1, none⟩ = some (.slice q l.length cq) ∧ w'.cell? ⟨gq, k * 2 + 1, none⟩ = some (.int .u64 (sO : Int))) (first | exact HS0.out | exact hS5) (first | (go_at_call 8; refine (r_needed F sO 18446744073709551615 q cq l _ (HLd.out.chg HCr.out (fun _ _ _ _ x => x)) (by omega)).mono ?_; rintro e y1 ⟨rfl, C2⟩; rw [HND.out]; replace HCr : Hid (Chg (fun _ => False) wd y1) := HCr.out.falls C2; have hS5 : y1.cell? ⟨w.heap.size, 0, none⟩ = some (.int .u64 (F : Int)) ∧ y1.cell? ⟨w.heap.size, 1, none⟩ = some (.slice q l.length cq) ∧ y1.cell? ⟨gq, k * 2 + 1, none⟩ = some (.int .u64 (sO : Int)) := ⟨cell_of (HNr.out y1 HCr.out) 0, cell_of (HNr.out y1 HCr.out) 1, HSO.out y1 HCr.out⟩; clear C2))
                all_goals (
                  try go_wp2_with fail
                  go_roundw
                  case rel => exact ⟨k + 1, by omega, by go_num, HCr⟩
                  case measure => simp [intOf]; omega)
              · have e0 : ((sN : Int) == 0) = false := beq_eq_false_iff_ne.2 (by omega)
                rw [if_neg s0] at hnd
                have HND := keepH hnd
                clear hnd
                go_upto_region 29 with fail
                go_region_held3 (fun w' => w'.cell? ⟨w.heap.size, 0, none⟩ = some (.int .u64 (F : Int)) ∧ w'.cell? ⟨w.heap.size, 1, none⟩ = some (.slice q l.length cq) ∧ w'.cell? ⟨gq, k * 2 + 1, none⟩ = some (.int .u64 (sO : Int))) (first | exact HS0.out | exact hS5) (first | (go_at_call 8; refine (r_needed F sO sN q cq l _ (HLd.out.chg HCr.out (fun _ _ _ _ x => x)) (by omega)).mono ?_; rintro e y1 ⟨rfl, C2⟩; rw [HND.out]; replace HCr : Hid (Chg (fun _ => False) wd y1) := HCr.out.falls C2; have hS5 : y1.cell? ⟨w.heap.size, 0, none⟩ = some (.int .u64 (F : Int)) ∧ y1.cell? ⟨w.heap.size, 1, none⟩ = some (.slice q l.length cq) ∧ y1.cell? ⟨gq, k * 2 + 1, none⟩ = some (.int .u64 (sO : Int)) := ⟨cell_of (HNr.out y1 HCr.out) 0, cell_of (HNr.out y1 HCr.out) 1, HSO.out y1 HCr.out⟩; clear C2))
                all_goals (
                  try go_wp2_with fail
                  go_roundw
                  case rel => exact ⟨k + 1, by omega, by go_num, HCr⟩
                  case measure => simp [intOf]; omega)
            · have t3 : ¬ (k : Int) < (K : Int) := by omega
              go_wp2_with fail
              go_ret
              exact ⟨by simp, ((HC2.out.falls (HCd.out.falls HR2.out)).mono (G := fun k => w.heap.size ≤ k) (fun _ _ x => x.elim)).below (Nat.le_refl _)⟩

set_option maxRecDepth 100000 in
theorem lifted (os : Os) (started : os.Started) (H : Type) (enc : TypeId × Value → H) (F : Stop.Interp) :
    ReturnsInHanded {} Try.checked os 5 .any ((Rows.OpenSpec.upto Rows.cutKeepsSpec).pre6 enc Try.prog Try.f5 Rows.cutKeepsUptoRow.domain false) (((Rows.OpenSpec.upto Rows.cutKeepsSpec).at F).post enc Try.prog Try.f5 false true false false) := by
  refine returnsInHanded_of_cond (C := Try.checked) (s := Rows.OpenSpec.upto Rows.cutKeepsSpec) (k := Rows.uptoSmall) rfl own started (by kernel_rfl) Try.func5
    (OpenSpec.witness (enc := enc) (C := Try.checked) (s := Rows.OpenSpec.upto Rows.cutKeepsSpec) (k := Rows.uptoSmall) rfl false ⟨#[], #[.slice none 0 0, .agg #[.int .u64 0, .slice none 0 0], .slice none 0 0], []⟩ 8 (by kernel_rfl) (by kernel_rfl) (by kernel_rfl)
      (x := ([.nil, .agg [.lit (.int .u64 0), .nil], .nil], [], [])) (by kernel_rfl) rfl (by kernel_rfl)) ?_
  intro W base args ds gs before hval0 hW _ hk _
  have hval : ∀ (j : Nat) t v, Try.f5.params[j]? = some t → args[j]? = some v → Value.okWide Try.prog W .any base t v := hval0
  have hW' := hW
  obtain ⟨p, q, hA0, hV, rfl, hfz, hnd⟩ := hW
  have hA : DataW.TrodAll enc Try.prog W 0 (fun _ => true) true Try.f5.params.toList args.toList ds p := hA0
  rw [Try.params5] at hA hval
  obtain ⟨v0, vs0, d0, ds0, p0, q0, hargs, rfl, rfl, h0, r0⟩ := trodAll_cons hA
  obtain ⟨v1, vs1, d1, ds1, p1, q1, rfl, rfl, rfl, h1, r1⟩ := trodAll_cons r0
  obtain ⟨v2, vs2, d2, ds2, p2, q2, rfl, rfl, rfl, h2, r2⟩ := trodAll_cons r1
  obtain ⟨rfl, rfl, rfl⟩ := trodAll_nil r2
  obtain rfl : args = #[v0, v1, v2] := by cases args; simp_all
  obtain ⟨rfl, rfl⟩ := trodVars_none hV
  have k0 := h0
  have lt0 : ∀ x ∈ p0, x.block < W.heap.size := by obtain ⟨m, hm⟩ := k0; exact DataW.trod_lt m _ _ _ hm
  have k1 := h1
  have lt1 : ∀ x ∈ p1, x.block < W.heap.size := by obtain ⟨m, hm⟩ := k1; exact DataW.trod_lt m _ _ _ hm
  have k2 := h2
  have lt2 : ∀ x ∈ p2, x.block < W.heap.size := by obtain ⟨m, hm⟩ := k2; exact DataW.trod_lt m _ _ _ hm
  obtain ⟨p, n0, c, rfl⟩ := okWide_slice Try.underlying23 (hval 0 23 v0 rfl rfl)
  obtain ⟨st, hl0, hS⟩ := u64s_at h0
  have hb0 := u64s_len h0
  subst hl0
  obtain ⟨cv0, rfl, hcsz0⟩ := okWide_struct Try.underlying25 (hval 1 25 v1 rfl rfl)
  obtain ⟨F, q, cq, l, rfl, hF, hL, hb1, _⟩ := need_open h1
  obtain ⟨pa, n2, ca, rfl⟩ := okWide_slice Try.underlying23 (hval 2 23 v2 rfl rfl)
  obtain ⟨ak, hl2, hAk⟩ := u64s_at h2
  have hb2 := u64s_len h2
  subst hl2
  simp only [List.append_nil] at hW' hk
  have hb : Rows.uptoBulkAll [d0, d1, d2] ≤ 1048576 := of_decide_eq_true hk
  have hbs : st.length ≤ 1048576 := by simp only [Rows.uptoBulkAll] at hb; omega
  have hbl : l.length ≤ 1048576 := by simp only [Rows.uptoBulkAll] at hb; omega
  have hba : ak.length ≤ 1048576 := by simp only [Rows.uptoBulkAll] at hb; omega
  clear hA0 hval0
  refine (walk p q pa c cq ca F st l ak W hS hL hAk hbs hbl hba).mono fun e W' ⟨he, bel⟩ => ?_
  subst he
  exact ⟨_, rfl, _, _, _, [], _, [], hW', trodAll_mk1 (shut_bool Try.underlying4 _), (trodAll_cons_mk (Below.trod laidOut (by kernel_rfl) (of_decide_eq_true (by kernel_rfl)) k0 bel lt0) (trodAll_cons_mk (Below.trod laidOut (by kernel_rfl) (of_decide_eq_true (by kernel_rfl)) k1 bel lt1) (trodAll_cons_mk (Below.trod laidOut (by kernel_rfl) (of_decide_eq_true (by kernel_rfl)) k2 bel lt2) trodAll_mk0))), rfl, bel.frame _, fun h => by cases h⟩

theorem over : Rows.cutKeepsUptoRow.holds Try.pinned (Rows.OpenSpec.upto Rows.cutKeepsSpec) :=
  OpenClaim.holds_of_cond 5 Try.f5 rfl rfl rfl rfl rfl rfl rfl ⟨rfl, rfl, rfl, rfl, rfl⟩ rfl rfl rfl rfl rfl (by kernel_rfl) Try.func5 (by kernel_rfl)
    (of_decide_eq_true (by kernel_rfl)) (by unfold Func.isWrapper; first | (rw [if_pos (by decide +kernel)]; kernel_rfl) | (rw [if_neg (by decide +kernel)]; exact ⟨rfl, rfl⟩))
    (fun os started H enc _ F => lifted os started H enc F)
end Go.Proofs.Ytciohnfbjaglbaa.cutKeeps
namespace Go.Proofs.Ytciohnfbjaglbaa
theorem cutKeeps_holds : Rows.CutKeepsUptoSaid := cutKeeps.over
end Go.Proofs.Ytciohnfbjaglbaa
