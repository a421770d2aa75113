/- Whatever the cells hold, whatever address is taken for an object and whatever the need: a Cut takes the steps of the document's Cut, tells the same behind each, and makes the same accesses (shutterlaw15.CutAny is true for every input). -/
import Derived.Test.YtciohnfbjaglbaaRows
import Derived.WalkKit
import Derived.ProofKit
import Derived.OpenShut
import Derived.JoinedCond
import Derived.Carry
import Derived.Lib.SmallJoins
import Derived.Test.YtciohnfbjaglbaaRe
namespace Go.Proofs.Ytciohnfbjaglbaa.cutAny
open Go.ChangeShapes Go.WideShapes Go.ChangeAt Go.RowKit Go.Joins Go.Shelf
set_option linter.unusedVariables false

theorem own : ownKnob Try.prog.godebug = none := by kernel_rfl
theorem laidOut : laidOutB Try.prog = true := by kernel_rfl

set_option maxRecDepth 100000 in
set_option maxHeartbeats 8000000 in
theorem walk (p q : Option Addr) (c cq F obj : Nat) (st l : List Nat) (w : World) (hS : U64At w p st) (hL : U64At w q l) (hbs : st.length ≤ 17592186043904) (hbl : l.length ≤ 17592186043904) (ho : obj < 18446744073709551616) :
    Calls Try.prog 4 #[.slice p st.length c, .int .u64 (obj : Int), .agg #[.int .u64 (F : Int), .slice q l.length cq]] w fun e w' => e = .returned (.bool true) ∧ Below w.heap.size w w' := by
  obtain ⟨w0, hw0⟩ : ∃ w0, w0 = w.alloc (.cells #[.int .u64 (F : Int), .slice q l.length cq] 25) := ⟨_, rfl⟩
  have HNB : Hid (w0.heap[w.heap.size]? = some (.cells #[.int .u64 (F : Int), .slice q l.length cq] 25 (0, 0))) := by rw [hw0]; exact heap_alloc_new _ _
  have HC0 : Hid (Chg (fun _ => False) w w0) := by rw [hw0]; exact (Chg.refl _ _).alloc _
  have HW0 := keepH hw0
  have HPA : Hid (U64At w0 p st) := hS.chg HC0.out (fun _ _ _ _ x => x)
  have HL0 : Hid (U64At w0 q l) := hL.chg HC0.out (fun _ _ _ _ x => x)
  clear hw0 hS hL
  go_enter Try.func4, Try.ntmps4
  go_upto_region 1 with fail
  rw [← HW0.out]
  clear HW0
  go_wp2_with fail
  refine (m_new 256 w0 (by omega)).mono ?_
  rintro e W1 ⟨rfl, M1, B1, C1, S1⟩
  have HM1 := keepH M1
  have HB1 := keepH B1
  have HC1 := keepH C1
  have HS1 := keepH S1
  clear M1 B1 C1 S1
  go_wp2_with fail
  refine (r_new 256 W1 (by omega)).mono ?_
  rintro e W2 ⟨rfl, R2, C2, S2⟩
  have HR2 := keepH R2
  have HM2 := keepH (HM1.out.chg C2 (fun x => x))
  have HB2 := keepH (HB1.out.chg C2 (fun _ _ x => x))
  have HC2 := keepH (HC1.out.falls C2)
  have HS2 := keepH S2
  clear R2 C2 S2 HM1 HB1 HC1
  go_wp2_with fail
  refine (m_view _ w0.heap.size 0 _ HM2.out).mono ?_
  rintro e w2 ⟨rfl, rfl⟩
  obtain ⟨w3, hw3⟩ : ∃ w3, w3 = W2.alloc (.cells #[.iface 70 (.pointer (some ⟨w0.heap.size, 0, none⟩)), .int .i64 0, .int .i64 0] 73) := ⟨_, rfl⟩
  have HVB : Hid (VBt w0 (w0.heap.size + 1) w0.heap.size W2.heap.size (W1.heap.size + 1) 0 w3) := by
    have c : Chg (fun _ => False) W2 w3 := by rw [hw3]; exact (Chg.refl _ _).alloc _
    have hv : IsView w3 W2.heap.size w0.heap.size 0 0 := by rw [hw3]; exact heap_alloc_new _ _
    have s1 := HS1.out
    have s2 := HS2.out
    have hsz : w3.heap.size = W2.heap.size + 1 := by rw [hw3]; simp
    refine ⟨[], fun k => k = W1.heap.size ∨ k = W1.heap.size + 1, [], ⟨fun k => k = w0.heap.size, [], ⟨HB2.out.chg c (fun _ _ x => x), hv, HM2.out.chg c (fun x => x), by omega, by omega, by omega, fun k e => by omega, by omega, HC2.out.falls c⟩, rfl, fun k e => by omega⟩, HR2.out.chg c (fun _ _ x => x), rfl, fun a ha => by simp at ha⟩
  rw [← hw3]
  clear hw3 HM2 HB2 HC2 HR2
  obtain ⟨v, hv⟩ : ∃ v, v = W2.heap.size := ⟨_, rfl⟩
  rw [← hv] at HVB ⊢
  clear hv HS2
  obtain ⟨nm, hnm⟩ : ∃ nm, nm = W1.heap.size + 1 := ⟨_, rfl⟩
  rw [← hnm] at HVB ⊢
  clear hnm HS1
  obtain ⟨m, hm⟩ : ∃ m, m = w0.heap.size + 1 := ⟨_, rfl⟩
  rw [← hm] at HVB ⊢
  clear hm
  obtain ⟨b, hb⟩ : ∃ b, b = w0.heap.size := ⟨_, rfl⟩
  rw [← hb] at HVB
  clear hb
  obtain ⟨n, hn⟩ : ∃ n, n = min st.length 256 := ⟨_, rfl⟩
  have HN := keepH hn
  clear hn
  go_wp2_with fail
  go_loopw [12] (fun s wr => ∃ k : Nat, k ≤ n ∧ s = .int .i64 (k : Int) ∧ Hid (VBt w0 m b v nm k wr)) (fun s _ => n - (intOf s).toNat)
  case atStart => exact ⟨0, by omega, rfl, HVB⟩
  case round =>
    obtain ⟨k, hk, rfl, HK⟩ := hrel
    by_cases hlt : k < n
    · have i1 : (k : Int) < (st.length : Int) := by have := HN.out; omega
      have i2 : (k : Int) < 256 := by have := HN.out; omega
      have i3 : k < 256 := by omega
      have i4 : k < st.length := by omega
      have kw : IntKind.u64.wrap (k : Int) = (k : Int) := u64_lt (by omega)
      obtain ⟨x, hx⟩ : ∃ x, st[k]? = some x := ⟨_, List.getElem?_eq_getElem i4⟩
      rcases HPA.out with h0 | ⟨bk, off, hp, hbk, hc⟩
      · rw [h0] at hx
        simp at hx
      · subst hp
        obtain ⟨bx, d0⟩ := hc k x hx
        obtain ⟨cs, R, t, SS, MM, LL, PP⟩ := HK.out
        have HSS := keepH SS
        have HMM := keepH MM
        have HLL := keepH LL
        have HPP := keepH PP
        have HCX : Hid (∀ z, Chg (fun _ => False) w0 z → z.cell? ⟨bk, off + k, none⟩ = some (.int .u64 (x : Int))) := fun z hz => by
          have hb2 := hz.block bk hbk (fun x => x)
          have := d0
          unfold World.cell? at this ⊢
          simp only [] at this ⊢
          rw [hb2]
          exact this
        have c0 := HCX.out wr SS.chg
        clear hx hc SS MM LL HK d0 PP
        go_wp2_with fail
        refine (HSS.out.store k x (by omega) bx (by omega) (by rw [HLL.out]; omega)).mono ?_
        rintro e y1 ⟨rfl, S1, K1, Z1⟩
        have HS1 := keepH S1
        have HM1 := keepH (HMM.out.kept2 (fun k e => S1.lt k e) K1)
        have c1 := HCX.out y1 S1.chg
        clear S1 K1 Z1 HSS HMM c0
        go_wp2_with fail
        refine (r_store nm 256 1 k x 0 R cs t _ HM1.out (by have := HLL.out; omega) (by omega) bx).mono ?_
        rintro e y2 ⟨rfl, R2, M2, G2⟩
        have HVB2 : Hid (VBt w0 m b v nm (k + 1) y2) := ⟨_, R2, _, HS1.out.grow G2.chg G2.new (fun k e => M2.lt k e), M2, by rw [List.length_append, HLL.out]; rfl, HPP.out.more rfl rfl⟩
        clear M2 G2 HS1 HM1 c1
        go_wp2_with fail
        go_roundw
        case rel => exact ⟨k + 1, by omega, by first | rfl | go_num, HVB2⟩
        case measure => simp [intOf]; omega
    · obtain rfl : k = n := by omega
      go_upto_region 7 with fail
      go_cut [37] from 30 to 55 (fun s30 wz => s30 = .bool false ∧ wz = wr)
      case first =>
        by_cases h4 : k < st.length
        · have i1 : (k : Int) < (st.length : Int) := by omega
          have i2 : ¬ (k : Int) < 256 := by have := HN.out; omega
          go_wp2_with fail
          go_meet
          exact ⟨by first | rfl | trivial | simp [i2], by first | rfl | trivial⟩
        · have i1 : ¬ (k : Int) < (st.length : Int) := by omega
          go_wp2_with fail
          go_meet
          exact ⟨by first | rfl | trivial | simp [i1], by first | rfl | trivial⟩
      case rest =>
      obtain ⟨rfl, hwc⟩ := hcut
      subst hwc
      obtain ⟨cs, R, t, SS, MM, LL, PP⟩ := HK.out
      have HSS := keepH SS
      have HMM := keepH MM
      have HLL := keepH LL
      have HPP := keepH PP
      have n0 : wc.cell? ⟨w.heap.size, 0, none⟩ = some (.int .u64 (F : Int)) := cell_of ((SS.chg.block _ (lt_of HNB.out) (fun x => x)).trans HNB.out) 0
      have n1 : wc.cell? ⟨w.heap.size, 1, none⟩ = some (.slice q l.length cq) := cell_of ((SS.chg.block _ (lt_of HNB.out) (fun x => x)).trans HNB.out) 1
      have hk256 : k ≤ 256 := by have := HN.out; omega
      clear SS MM LL HK HN HPA hlt hk PP
      obtain ⟨wb, hwb⟩ : ∃ wb, wb = wc := ⟨_, rfl⟩
      rw [← hwb] at HSS HMM n0 n1 ⊢
      clear hwb
      have HLb := keepH (HL0.out.chg HSS.out.chg (fun _ _ _ _ x => x))
      go_wp2_with fail
      refine (k_new 1 obj F q cq l _ HLb.out (by omega) HL0.out.small).mono ?_
      rintro e w7 ⟨pc, q7, d7, rfl, hp7, hI7, hU7, hq7, hC7⟩
      have HK7 := keepH (KS.start HSS.out hC7 hp7 hI7 hU7 hq7 ho (by omega))
      have HM7 := keepH (HMM.out.chg hC7 (fun _ _ x => x))
      have HC7 : Hid (Chg (fun _ => False) w0 w7) := HSS.out.chg.falls hC7
      have n0' : w7.cell? ⟨w.heap.size, 0, none⟩ = some (.int .u64 (F : Int)) := cell_of ((HC7.out.block _ (lt_of HNB.out) (fun x => x)).trans HNB.out) 0
      have n1' : w7.cell? ⟨w.heap.size, 1, none⟩ = some (.slice q l.length cq) := cell_of ((HC7.out.block _ (lt_of HNB.out) (fun x => x)).trans HNB.out) 1
      clear hp7 hI7 hU7 hq7 hC7 n0 n1 HMM HLb
      obtain ⟨w8, hw8⟩ : ∃ w8, w8 = w7.alloc (.cells #[.int .i64 0, .int .u64 (obj : Int), .int .u64 (F : Int), .slice q l.length cq, .int .u64 0, .int .u64 0, .int .u64 0, .int .u64 0, .int .u64 0, .int .u64 0, .int .u64 0, .int .u64 0, .int .u64 0] 43) := ⟨_, rfl⟩
      have HCA : Hid (CAt w0 m b v nm pc w7.heap.size F q7 d7 q cq l w8 k cs t R (CutS.new obj) ⟨0, obj, 0, 0, 0, 0, 0, 0, 0, 0, 0⟩ 0) := by
        rw [hw8]
        have hK := HK7.out.box (.cells #[.int .i64 0, .int .u64 (obj : Int), .int .u64 (F : Int), .slice q l.length cq, .int .u64 0, .int .u64 0, .int .u64 0, .int .u64 0, .int .u64 0, .int .u64 0, .int .u64 0, .int .u64 0, .int .u64 0] 43)
        have cc := (Chg.refl (fun _ => False) w7).alloc (.cells #[.int .i64 0, .int .u64 (obj : Int), .int .u64 (F : Int), .slice q l.length cq, .int .u64 0, .int .u64 0, .int .u64 0, .int .u64 0, .int .u64 0, .int .u64 0, .int .u64 0, .int .u64 0, .int .u64 0] 43)
        obtain ⟨F9, l9, S9, _, A9⟩ := HSS.out
        have inR : ∀ k, R k → w0.heap.size ≤ k := fun k e => (A9 k e).2.2.2.1
        refine ⟨hK, ⟨HM7.out.chg cc (fun _ _ x => x), heap_alloc_new _ _, HL0.out.chg (HC7.out.alloc _) (fun _ _ _ _ x => x), fun x => by have := HM7.out.lt _ x; omega, fun bk off e hn => ?_⟩, sim_new obj, by omega, by rw [HLL.out]; omega, Nat.zero_le _, HPP.out⟩
        rcases HL0.out with z | ⟨bk', off', e', hb, _⟩
        · exact absurd z hn
        · rw [e] at e'
          simp only [Option.some.injEq, Addr.mk.injEq] at e'
          have := HC7.out.size
          exact ⟨fun x => by have := inR bk x; omega, by omega⟩
      obtain ⟨rp, hrp⟩ : ∃ rp, rp = w7.heap.size := ⟨_, rfl⟩
      rw [← hrp] at HCA
      have HRP := keepH hrp
      have HW8 := keepH hw8
      clear hw8 hrp HSS HK7 HM7 HLL HPP
      go_upto_region 13 with fail
      rw [← HW8.out]
      rw [← HRP.out]
      clear HW8 HRP n0' n1'
      go_wp2_with fail
      go_loopw [15] (fun s wr => ∃ j : Nat, j ≤ 300 ∧ s = .int .i64 (j : Int) ∧ Hid (∃ made2 cs2 t2 R2 s2 r2, CAt w0 m b v nm pc rp F q7 d7 q cq l wr made2 cs2 t2 R2 s2 r2 j ∧ s2.nx ≤ 6)) (fun s _ => 300 - (intOf s).toNat)
      case atStart => exact ⟨0, by omega, rfl, keepH ⟨_, _, _, _, _, _, HCA.out, Nat.zero_le _⟩⟩
      case round =>
        obtain ⟨j, hj, rfl, HJ⟩ := hrel
        clear HCA
        obtain ⟨made2, cs2, t2, R2, s2, r2, hCA, h6⟩ := HJ.out
        have HCA := keepH hCA
        clear hCA HJ
        by_cases hlt : j < 300
        · have t1 : (j : Int) < 300 := by omega
          obtain ⟨B, hB⟩ : ∃ B, B = decide ((kstep 0 F l 256 cs2 s2).2.1.nx = 7) := ⟨_, rfl⟩
          have HB := keepH hB
          clear hB
          go_wp2_with fail
          refine (HCA.out.prog HL0.out h6 hj).mono ?_
          rintro e y1 ⟨rfl, K1, R1⟩
          rw [← HB.out]
          have HK1 := keepH K1
          have HR1 := keepH R1
          clear K1 R1
          go_wp2_with fail
          refine (CAt.doc (s' := s2) (cs' := cs2) (t' := t2) HK1.out HR1.out HCA.out.sim HCA.out.ks.bd h6 HCA.out.bm HCA.out.bt HCA.out.bc HCA.out.pl hj).mono ?_
          rintro e y2 ⟨rfl, R3, hCA3⟩
          rw [← HB.out]
          have HC3 := keepH hCA3
          clear hCA3 HCA HK1 HR1
          obtain ⟨s3, hs3⟩ : ∃ s3, s3 = (kstep 0 F l 256 cs2 s2).2.1 := ⟨_, rfl⟩
          obtain ⟨cs3, hcs3⟩ : ∃ cs3, cs3 = (kstep 0 F l 256 cs2 s2).1 := ⟨_, rfl⟩
          obtain ⟨t3, ht3⟩ : ∃ t3, t3 = t2 ++ [(kstep 0 F l 256 cs2 s2).2.2] := ⟨_, rfl⟩
          obtain ⟨r3, hr3⟩ : ∃ r3, r3 = (rstep 0 F l 256 cs2 r2).2.1 := ⟨_, rfl⟩
          rw [← hs3, ← hcs3, ← ht3, ← hr3] at HC3
          rw [← hs3] at HB
          clear hs3 hcs3 ht3 hr3 h6
          obtain ⟨cn, hcn⟩ : ∃ cn, cn = (if s3.nx = 7 then s3.cnt else 0) := ⟨_, rfl⟩
          obtain ⟨hd, hhd⟩ : ∃ hd, hd = (if s3.nx = 7 then s3.head else 0) := ⟨_, rfl⟩
          have eC : r3.Cnt = cn ∧ r3.Hd = hd := by
            rw [hcn, hhd]
            by_cases z : s3.nx = 7
            · rw [if_pos z, if_pos z]; exact HC3.out.sim.told z
            · rw [if_neg z, if_neg z]; exact HC3.out.sim.not z
          have HCnt : Hid (∀ k, Calls Try.prog 17 #[.pointer (some ⟨pc, 0, none⟩)] (y2.drewN k) fun e W' => e = .returned (.int .u64 (cn : Int)) ∧ W' = y2.drewN k) := fun k => by
            have hI := HC3.out.ks.cut.chg (Goes.drewN y2 (fun _ => False) k).chg (fun x => x)
            rw [hcn]
            by_cases z : s3.nx = 7
            · rw [if_pos z]; exact k_count pc F _ _ _ hI z
            · rw [if_neg z]; exact k_count0 pc F _ _ _ hI z
          have HHd : Hid (∀ k, Calls Try.prog 18 #[.pointer (some ⟨pc, 0, none⟩)] (y2.drewN k) fun e W' => e = .returned (.int .u64 (hd : Int)) ∧ W' = y2.drewN k) := fun k => by
            have hI := HC3.out.ks.cut.chg (Goes.drewN y2 (fun _ => False) k).chg (fun x => x)
            rw [hhd]
            by_cases z : s3.nx = 7
            · rw [if_pos z]; exact k_head pc F _ _ _ hI z
            · rw [if_neg z]; exact k_head0 pc F _ _ _ hI z
          have q11 : y2.cell? ⟨rp, 11, none⟩ = some (.int .u64 (cn : Int)) := (cell_of HC3.out.rs.cut 11).trans (by rw [← eC.1]; rfl)
          have q12 : y2.cell? ⟨rp, 12, none⟩ = some (.int .u64 (hd : Int)) := (cell_of HC3.out.rs.cut 12).trans (by rw [← eC.2]; rfl)
          clear hcn hhd eC
          go_upto_region 18 with fail
          cases B with
          | true =>
            go_quiet (first | (go_at_call 17; refine (HCnt.out _).mono ?_; rintro x y ⟨rfl, rfl⟩; exact ⟨rfl, _, rfl⟩) | (go_at_call 18; refine (HHd.out _).mono ?_; rintro x y ⟨rfl, rfl⟩; exact ⟨rfl, _, rfl⟩))
            obtain ⟨y4, hy4⟩ : ∃ y4, y4 = y2.drewN nq := ⟨_, rfl⟩
            have HCA : Hid (CAt w0 m b v nm pc rp F q7 d7 q cq l y4 (made2 + 1) cs3 t3 R3 s3 r3 (j + 1)) := by rw [hy4]; exact ⟨HC3.out.ks.other ((Goes.drewN y2 (fun k => R3 k ∨ k = rp) nq).chg) (fun k e => .inl e) (fun k e => HC3.out.ks.sb.lt k (.inl e)), HC3.out.rs.kept (fun k e => HC3.out.rs.mem.lt k e) (fun _ _ => rfl) (HC3.out.rs.row.chg (Goes.drewN y2 (fun _ => False) nq).chg (fun _ _ _ _ x => x)), HC3.out.sim, HC3.out.bm, HC3.out.bt, HC3.out.bc, HC3.out.pl⟩
            rw [← hy4]
            clear hy4 HC3 HB HCnt HHd q11 q12
            obtain ⟨F5, l5, M5, B5, hb5, _, _⟩ := HCA.out.ks.sb.mem
            obtain ⟨av, cav, rav, inav⟩ := HCA.out.rs.mem.row
            have HM5 := keepH M5
            have HB5 := keepH B5
            have Hb5 := keepH hb5
            have HRav := keepH rav
            have HPl := keepH HCA.out.pl
            have HWZ := keepH HCA.out.ks.sb.chg
            have HLT := keepH HCA.out.bt
            obtain ⟨pav, cvv, rfl⟩ := slice_of rav
            have nmlt : nm < y4.heap.size := World.block_lt_of_cell? y4 ⟨nm, 2, none⟩ cav
            have HNM := keepH nmlt
            have HCr : Hid (Chg (fun _ => False) y4 y4.drew) := (Chg.refl _ _).drew
            have HSr : Hid (∀ z, Chg (fun _ => False) y4 z → z.cell? ⟨nm, 2, none⟩ = some (.slice pav t3.length cvv)) := fun z hz => by
              have hb2 := hz.block nm HNM.out (fun x => x)
              have := cav
              unfold World.cell? at this ⊢
              simp only [] at this ⊢
              rw [hb2]
              exact this
            have HS0 := keepH cav
            clear M5 B5 hb5 rav inav nmlt cav HCA
            go_upto_region 21 with fail
            go_region_held3 (fun w' => w'.cell? ⟨nm, 2, none⟩ = some (.slice pav t3.length cvv)) (first | exact HS0.out | exact hS5) (first
              | (go_at_call 6; refine (live_15 _).mono ?_; rintro e y1 ⟨rfl, C2⟩; replace HCr : Hid (Chg (fun _ => False) y4 y1) := HCr.out.falls C2; have hS5 := HSr.out y1 HCr.out; clear C2)
              | (go_at_call 20; refine (m_trace m b 256 1 F5 _ l5 _ (HM5.out.chg HCr.out (fun x => x)) (HB5.out.chg HCr.out (fun _ _ x => x)) (by have e := congrArg List.length Hb5.out; simp at e; have := HLT.out; omega) (fun a ha => by have e := (HPl.out a.bare (by rw [← Hb5.out]; exact List.mem_map_of_mem ha)).1; have e2 : a.vals = [] := e; rw [e2]; simp)).mono ?_; rintro e y2 ⟨p5, c5, lk, rfl, T5⟩; have HT5 := keepH (like_traces T5 Hb5.out HPl.out); have HTr := keepH T5.row; have hlen : l5.length = t3.length := (by have e := congrArg List.length Hb5.out; simpa using e); rw [hlen] at HTr; rw [hlen]; replace HCr : Hid (Chg (fun _ => False) y4 y2) := HCr.out.falls T5.chg; have hS5 := HSr.out y2 HCr.out; have HRv2 : Hid (y2.ownsRow 0 77 8 (.slice pav t3.length cvv) t3.length (accRow t3)) := row_kept HRav.out (fun k e => HCr.out.block k (row_lt HRav.out k e) (fun x => x)); clear T5 hlen)
              | (go_at_call 19; refine (s_trace _ _ _ _ t3.length lk t3 _ HTr.out HRv2.out HT5.out.1 rfl HT5.out.2 (by have := HLT.out; omega)).mono ?_; rintro e y3 ⟨rfl, C2⟩; replace HCr : Hid (Chg (fun _ => False) y4 y3) := HCr.out.falls C2; have hS5 := HSr.out y3 HCr.out; clear C2))
            all_goals (
              try go_wp2_with fail
              go_ret
              exact ⟨by simp, ((HC0.out.falls (HWZ.out.falls HCr.out)).mono (G := fun k => w.heap.size ≤ k) (fun _ _ x => x.elim)).below (Nat.le_refl _)⟩)
          | false =>
            go_quiet (first | (go_at_call 17; refine (HCnt.out _).mono ?_; rintro x y ⟨rfl, rfl⟩; exact ⟨rfl, _, rfl⟩) | (go_at_call 18; refine (HHd.out _).mono ?_; rintro x y ⟨rfl, rfl⟩; exact ⟨rfl, _, rfl⟩))
            obtain ⟨y4, hy4⟩ : ∃ y4, y4 = y2.drewN nq := ⟨_, rfl⟩
            have HCA : Hid (CAt w0 m b v nm pc rp F q7 d7 q cq l y4 (made2 + 1) cs3 t3 R3 s3 r3 (j + 1)) := by rw [hy4]; exact ⟨HC3.out.ks.other ((Goes.drewN y2 (fun k => R3 k ∨ k = rp) nq).chg) (fun k e => .inl e) (fun k e => HC3.out.ks.sb.lt k (.inl e)), HC3.out.rs.kept (fun k e => HC3.out.rs.mem.lt k e) (fun _ _ => rfl) (HC3.out.rs.row.chg (Goes.drewN y2 (fun _ => False) nq).chg (fun _ _ _ _ x => x)), HC3.out.sim, HC3.out.bm, HC3.out.bt, HC3.out.bc, HC3.out.pl⟩
            have H6 : Hid (s3.nx ≤ 6) := by
              have e := HB.out
              have := HC3.out.sim.le
              have e2 : ¬ s3.nx = 7 := of_decide_eq_false e.symm
              show s3.nx ≤ 6
              omega
            rw [← hy4]
            clear hy4 HC3 HB HCnt HHd q11 q12
            go_wp2_with fail
            go_roundw
            case rel => exact ⟨j + 1, by omega, by first | rfl | go_num, keepH ⟨_, _, _, _, _, _, HCA.out, H6.out⟩⟩
            case measure => simp [intOf]; omega
        · obtain rfl : j = 300 := by omega
          obtain ⟨F5, l5, M5, B5, hb5, _, _⟩ := HCA.out.ks.sb.mem
          obtain ⟨av, cav, rav, inav⟩ := HCA.out.rs.mem.row
          have HM5 := keepH M5
          have HB5 := keepH B5
          have Hb5 := keepH hb5
          have HRav := keepH rav
          have HPl := keepH HCA.out.pl
          have HWZ := keepH HCA.out.ks.sb.chg
          have HLT := keepH HCA.out.bt
          obtain ⟨pav, cvv, rfl⟩ := slice_of rav
          have nmlt : nm < wr.heap.size := World.block_lt_of_cell? wr ⟨nm, 2, none⟩ cav
          have HNM := keepH nmlt
          have HCr : Hid (Chg (fun _ => False) wr wr.drew) := (Chg.refl _ _).drew
          have HSr : Hid (∀ z, Chg (fun _ => False) wr z → z.cell? ⟨nm, 2, none⟩ = some (.slice pav t2.length cvv)) := fun z hz => by
            have hb2 := hz.block nm HNM.out (fun x => x)
            have := cav
            unfold World.cell? at this ⊢
            simp only [] at this ⊢
            rw [hb2]
            exact this
          have HS0 := keepH cav
          clear M5 B5 hb5 rav inav nmlt cav HCA
          go_upto_region 21 with fail
          go_region_held3 (fun w' => w'.cell? ⟨nm, 2, none⟩ = some (.slice pav t2.length cvv)) (first | exact HS0.out | exact hS5) (first
            | (go_at_call 6; refine (live_15 _).mono ?_; rintro e y1 ⟨rfl, C2⟩; replace HCr : Hid (Chg (fun _ => False) wr y1) := HCr.out.falls C2; have hS5 := HSr.out y1 HCr.out; clear C2)
            | (go_at_call 20; refine (m_trace m b 256 1 F5 _ l5 _ (HM5.out.chg HCr.out (fun x => x)) (HB5.out.chg HCr.out (fun _ _ x => x)) (by have e := congrArg List.length Hb5.out; simp at e; have := HLT.out; omega) (fun a ha => by have e := (HPl.out a.bare (by rw [← Hb5.out]; exact List.mem_map_of_mem ha)).1; have e2 : a.vals = [] := e; rw [e2]; simp)).mono ?_; rintro e y2 ⟨p5, c5, lk, rfl, T5⟩; have HT5 := keepH (like_traces T5 Hb5.out HPl.out); have HTr := keepH T5.row; have hlen : l5.length = t2.length := (by have e := congrArg List.length Hb5.out; simpa using e); rw [hlen] at HTr; rw [hlen]; replace HCr : Hid (Chg (fun _ => False) wr y2) := HCr.out.falls T5.chg; have hS5 := HSr.out y2 HCr.out; have HRv2 : Hid (y2.ownsRow 0 77 8 (.slice pav t2.length cvv) t2.length (accRow t2)) := row_kept HRav.out (fun k e => HCr.out.block k (row_lt HRav.out k e) (fun x => x)); clear T5 hlen)
            | (go_at_call 19; refine (s_trace _ _ _ _ t2.length lk t2 _ HTr.out HRv2.out HT5.out.1 rfl HT5.out.2 (by have := HLT.out; omega)).mono ?_; rintro e y3 ⟨rfl, C2⟩; replace HCr : Hid (Chg (fun _ => False) wr y3) := HCr.out.falls C2; have hS5 := HSr.out y3 HCr.out; clear C2))
          all_goals (
            try go_wp2_with fail
            go_ret
            exact ⟨by simp, ((HC0.out.falls (HWZ.out.falls HCr.out)).mono (G := fun k => w.heap.size ≤ k) (fun _ _ x => x.elim)).below (Nat.le_refl _)⟩)

set_option maxRecDepth 100000 in
theorem lifted (os : Os) (started : os.Started) (H : Type) (enc : TypeId × Value → H) :
    ReturnsInHanded {} Try.checked os 4 .any (Rows.cutAnySpec.pre6 enc Try.prog Try.f4 Rows.cutAnyRow.domain false) (Rows.cutAnySpec.post enc Try.prog Try.f4 false true false false) := by
  refine returnsInHanded_of_change_sized (C := Try.checked) own started (by kernel_rfl) Try.func4
    (ChangeSpec.witness6 (enc := enc) (C := Try.checked) false ⟨#[], #[.slice none 0 0, .int .u64 0, .agg #[.int .u64 0, .slice none 0 0]], []⟩ 8 (by kernel_rfl) (by kernel_rfl) (by kernel_rfl) (by kernel_rfl)) ?_
  intro W base args ds gs before hval0 hW hcnd hsz0 _
  have hval : ∀ (j : Nat) t v, Try.f4.params[j]? = some t → args[j]? = some v → Value.okWide Try.prog W .any base t v := hval0
  have hsz : (DataW.weightsEach Try.prog (Try.f4.params.toList ++ Rows.cutAnySpec.plain.varTypes Try.prog) (ds ++ gs)).all (· ≤ reachBytes) = true := hsz0
  clear hsz0
  have hW' := hW
  obtain ⟨p, q, hA0, hV, rfl, hfz, hnd⟩ := hW
  have hA : DataW.TrodAll enc Try.prog W 0 (fun _ => true) true Try.f4.params.toList args.toList ds p := hA0
  rw [Try.params4] at hA hval hsz
  obtain ⟨v0, vs0, d0, ds0, p0, q0, hargs, rfl, rfl, h0, r0⟩ := trodAll_cons hA
  obtain ⟨v1, vs1, d1, ds1, p1, q1, rfl, rfl, rfl, h1, r1⟩ := trodAll_cons r0
  obtain ⟨v2, vs2, d2, ds2, p2, q2, rfl, rfl, rfl, h2, r2⟩ := trodAll_cons r1
  obtain ⟨rfl, rfl, rfl⟩ := trodAll_nil r2
  obtain rfl : args = #[v0, v1, v2] := by cases args; simp_all
  obtain ⟨rfl, rfl⟩ := trodVars_none hV
  have k0 := h0
  have lt0 : ∀ x ∈ p0, x.block < W.heap.size := by obtain ⟨m, hm⟩ := k0; exact DataW.trod_lt m _ _ _ hm
  have k1 := h1
  have lt1 : ∀ x ∈ p1, x.block < W.heap.size := by obtain ⟨m, hm⟩ := k1; exact DataW.trod_lt m _ _ _ hm
  have k2 := h2
  have lt2 : ∀ x ∈ p2, x.block < W.heap.size := by obtain ⟨m, hm⟩ := k2; exact DataW.trod_lt m _ _ _ hm
  obtain ⟨p, n0, c, rfl⟩ := okWide_slice Try.underlying23 (hval 0 23 v0 rfl rfl)
  obtain ⟨st, hl0, hS⟩ := u64s_at h0
  have hb0 : n0 * 8 ≤ reachBytes := by rw [← bytesU]; exact slice_size (j := 0) Try.underlying23 h0 hsz rfl rfl
  subst hl0
  have hbs : st.length ≤ 17592186043904 := by simp only [reachBytes] at hb0; omega
  obtain ⟨a1, rfl, rfl, rfl, w1⟩ := open_int Try.underlying22 (hval 1 22 v1 rfl rfl) h1
  obtain ⟨obj, rfl, ho⟩ : ∃ m : Nat, a1 = (m : Int) ∧ m < 18446744073709551616 := by have b := bounds_u64 w1; exact ⟨a1.toNat, by omega, by omega⟩
  obtain ⟨cv0, rfl, hcsz0⟩ := okWide_struct Try.underlying25 (hval 2 25 v2 rfl rfl)
  obtain ⟨F, q, cq, l, rfl, hF, hL, _, hs0⟩ := need_open h2
  have hbl : l.length ≤ 17592186043904 := by have q := hs0 (fun m hm => by have := List.all_eq_true.1 hsz _ (DataW.weights_mem_each (j := 2) rfl rfl m hm); simpa using this); simp only [reachBytes] at q; omega
  clear hA0 hval0
  refine (walk p q c cq F obj st l W hS hL hbs hbl ho).mono fun e W' ⟨he, bel⟩ => ?_
  subst he
  exact ⟨_, rfl, _, _, _, [], _, [], hW', trodAll_mk1 (shut_bool Try.underlying4 _), (trodAll_cons_mk (Below.trod laidOut (by kernel_rfl) (of_decide_eq_true (by kernel_rfl)) k0 bel lt0) (trodAll_cons_mk (Below.trod laidOut (by kernel_rfl) (of_decide_eq_true (by kernel_rfl)) k1 bel lt1) (trodAll_cons_mk (Below.trod laidOut (by kernel_rfl) (of_decide_eq_true (by kernel_rfl)) k2 bel lt2) trodAll_mk0))), rfl, bel.frame _, fun h => by cases h⟩

theorem over : Rows.cutAnyRow.holds Try.pinned (OpenSpec.ofChange Rows.cutAnySpec) :=
  OpenClaim.holds_of_wide 4 Try.f4 rfl rfl rfl rfl rfl rfl rfl ⟨rfl, rfl, rfl, rfl, rfl⟩ rfl rfl rfl rfl rfl (by kernel_rfl) Try.func4 (by kernel_rfl)
    (of_decide_eq_true (by kernel_rfl)) (by unfold Func.isWrapper; first | (rw [if_pos (by decide +kernel)]; kernel_rfl) | (rw [if_neg (by decide +kernel)]; exact ⟨rfl, rfl⟩))
    (fun os started H enc _ => lifted os started H enc)
end Go.Proofs.Ytciohnfbjaglbaa.cutAny
namespace Go.Proofs.Ytciohnfbjaglbaa
theorem cutAny_holds : Rows.CutAnySaid := cutAny.over
end Go.Proofs.Ytciohnfbjaglbaa
