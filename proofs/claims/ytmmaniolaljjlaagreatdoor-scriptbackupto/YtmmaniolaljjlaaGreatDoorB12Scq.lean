/- Is a script right? By the program. (mkSek.py) -/
import Derived.Test.YtmmaniolaljjlaaGreatDoorB11Sej
import Derived.Test.YtmmaniolaljjlaaGreatDoorB7Scj
import Derived.Test.YtmmaniolaljjlaaGreatDoorB8Sco
import Derived.Deep.RegionHeld
import Derived.Laws.Tables
namespace Go.Proofs.YtmmaniolaljjlaaGreatDoor
open Go.RowKit Go.Shelf
set_option linter.unusedVariables false

theorem fault_lt (o : Opx) : faultO o = 160 ∨ faultO o = 6 ∨ faultO o = 52 ∨ faultO o = 0 := by
  unfold faultO faultN
  split
  · simp
  · split
    · simp
    · split
      · simp
      · split <;> simp
set_option maxRecDepth 100000 in
set_option maxHeartbeats 4000000 in
theorem sRight_any (ce sl : Int) (stp : Nat) (mu : Int) (tp : Option Addr) (tc : Nat) (pp : Option Addr) (pc : Nat) (ts : List (List Opx)) (ps : List Int) (hS : SOk ts ps) (W : World) (hT : TRd W tp ts) (hW : Wd W) :
    Calls Tryz.prog 18 #[.agg (scR ce sl stp mu (.slice tp ts.length tc) (.slice pp ps.length pc))] W fun e W' => e = .returned (.int .i64 (rtS ce sl stp mu ts ps : Int)) ∧ Below W.heap.size W W' := by
  obtain ⟨V, hV⟩ : ∃ V, V = rtS ce sl stp mu ts ps := ⟨_, rfl⟩
  rw [← hV]
  have HV := keepH hV
  obtain ⟨E, hE⟩ : ∃ E, E = cfgE ce sl stp mu := ⟨_, rfl⟩
  obtain ⟨L1, hL1⟩ : ∃ L, L = decide (longT ts ps) := ⟨_, rfl⟩
  obtain ⟨L2, hL2⟩ : ∃ L, L = decide (anyO tooO ts) := ⟨_, rfl⟩
  obtain ⟨w1, hw1⟩ : ∃ w1, w1 = W.alloc (.cells (scR ce sl stp mu (.slice tp ts.length tc) (.slice pp ps.length pc)) 46) := ⟨_, rfl⟩
  obtain ⟨P, hP⟩ : ∃ P, P = W.heap.size := ⟨_, rfl⟩
  have B1 : Below W.heap.size W w1 := by rw [hw1]; exact below_alloc _ _
  have hNW := sNew_any ce sl stp mu w1
  have hLG := fun w (hb : Below w1.heap.size w1 w) => tooLong_any ce sl stp mu tp tc pp pc ts ps hS w ((hT.on B1).on hb)
  have hS1 := fun w (hb : Below w1.heap.size w1 w) => anyToo_any ce sl stp mu tp tc (.slice pp ps.length pc) ts ps hS rfl w ((hT.on B1).on hb)
  rw [← hE] at hNW
  rw [← hL1] at hLG
  rw [← hL2] at hS1
  have HX1 : Hid (w1.heap[P]? = some (.cells (scR ce sl stp mu (.slice tp ts.length tc) (.slice pp ps.length pc)) 46 (0, 0))) := keepH (by rw [hw1, hP]; exact heap_alloc_new _ _)
  obtain ⟨n, hn⟩ : ∃ n, n = ts.length := ⟨_, rfl⟩
  obtain ⟨m, hm⟩ : ∃ m, m = ps.length := ⟨_, rfl⟩
  have hn1 := hS.tl
  rw [← hn, ← hm] at hLG hS1 HX1 hw1 ⊢
  rw [← hn] at hn1
  have HE := keepH hE
  have HL1 := keepH hL1
  have HL2 := keepH hL2
  have HNW := keepH hNW
  have HLG := keepH hLG
  have HS1 := keepH hS1
  have HW1 := keepH hw1
  have HP := keepH hP
  have HB1 := keepH B1
  have HN := keepH hn
  have HS := keepH hS
  have HTT := keepH (hT.on B1)
  have HWD := keepH (hW.on B1)
  have d0 : w1.cell? ⟨P, 0, none⟩ = _ := cell_of HX1.out 0
  have d1 : w1.cell? ⟨P, 1, none⟩ = _ := cell_of HX1.out 1
  have d2 : w1.cell? ⟨P, 2, none⟩ = _ := cell_of HX1.out 2
  have d3 : w1.cell? ⟨P, 3, none⟩ = _ := cell_of HX1.out 3
  have d4 : w1.cell? ⟨P, 4, none⟩ = _ := cell_of HX1.out 4
  have d5 : w1.cell? ⟨P, 5, none⟩ = _ := cell_of HX1.out 5
  clear hV hE hL1 hL2 hNW hLG hS1 hw1 hP B1 hn hm hS hT hW
  go_enter Tryz.func18, Tryz.ntmps18
  go_upto_region 1 with fail
  rw [← HW1.out, ← HP.out]
  go_wp2_with fail
  refine HNW.out.mono ?_
  rintro e w2 ⟨⟨p, rfl⟩, B2⟩
  have HB2 := keepH B2
  have HX2 := keepH (heap_below HX1.out B2)
  clear B2 d0 d1 d2 d3 d4 d5
  by_cases hE0 : ¬ E = 0
  · have q0 : ((E : Int) != 0) = true := by simp; omega
    have q1 : ¬ (E : Int) = 0 := by omega
    have HR : Hid (V = E) := keepH (by rw [HV.out, rtS_cfg (by rw [← HE.out]; exact hE0), HE.out])
    have HB3 := keepH (below_chain HB1.out HB2.out)
    clear hE0
    go_wp2_with fail
    go_ret
    exact ⟨by rw [HR.out]; rfl, HB3.out⟩
  obtain rfl : E = 0 := Classical.not_not.1 hE0
  clear hE0
  have d0 : w2.cell? ⟨P, 0, none⟩ = _ := cell_of HX2.out 0
  have d1 : w2.cell? ⟨P, 1, none⟩ = _ := cell_of HX2.out 1
  have d2 : w2.cell? ⟨P, 2, none⟩ = _ := cell_of HX2.out 2
  have d3 : w2.cell? ⟨P, 3, none⟩ = _ := cell_of HX2.out 3
  have d4 : w2.cell? ⟨P, 4, none⟩ = _ := cell_of HX2.out 4
  have d5 : w2.cell? ⟨P, 5, none⟩ = _ := cell_of HX2.out 5
  have HC := keepH (HLG.out w2 HB2.out)
  cases L1 with
  | true =>
    have HR : Hid (V = 6) := keepH (by rw [HV.out]; exact rtS_long HE.out.symm (.inl (of_decide_eq_true HL1.out.symm)))
    go_wp2_with fail
    refine HC.out.mono ?_
    rintro e w3 ⟨rfl, B3⟩
    have HB3 := keepH (below_chain (below_chain HB1.out HB2.out) B3)
    clear B3
    go_wp2_with fail
    go_ret
    exact ⟨by rw [HR.out]; rfl, HB3.out⟩
  | false =>
    go_wp2_with fail
    refine HC.out.mono ?_
    rintro e w3 ⟨rfl, B3⟩
    have HB3 := keepH (below_chain HB2.out B3)
    have HX3 := keepH (heap_below HX2.out B3)
    have HC3 := keepH (HS1.out w3 HB3.out)
    clear B3 d0 d1 d2 d3 d4 d5 HC
    have d0 : w3.cell? ⟨P, 0, none⟩ = _ := cell_of HX3.out 0
    have d1 : w3.cell? ⟨P, 1, none⟩ = _ := cell_of HX3.out 1
    have d2 : w3.cell? ⟨P, 2, none⟩ = _ := cell_of HX3.out 2
    have d3 : w3.cell? ⟨P, 3, none⟩ = _ := cell_of HX3.out 3
    have d4 : w3.cell? ⟨P, 4, none⟩ = _ := cell_of HX3.out 4
    have d5 : w3.cell? ⟨P, 5, none⟩ = _ := cell_of HX3.out 5
    cases L2 with
    | true =>
      have HR : Hid (V = 6) := keepH (by rw [HV.out]; exact rtS_long HE.out.symm (.inr (of_decide_eq_true HL2.out.symm)))
      go_wp2_with fail
      refine HC3.out.mono ?_
      rintro e w4 ⟨rfl, B4⟩
      have HB4 := keepH (below_chain (below_chain HB1.out HB3.out) B4)
      clear B4
      go_wp2_with fail
      go_ret
      exact ⟨by rw [HR.out]; rfl, HB4.out⟩
    | false =>
      have HLO : Hid (¬ (longT ts ps ∨ anyO tooO ts)) := keepH (fun h => h.elim (of_decide_eq_false HL1.out.symm) (of_decide_eq_false HL2.out.symm))
      go_wp2_with fail
      refine HC3.out.mono ?_
      rintro e w4 ⟨rfl, B4⟩
      have HB4 := keepH (below_chain HB3.out B4)
      have HX4 := keepH (heap_below HX3.out B4)
      clear B4 d0 d1 d2 d3 d4 d5 HC3
      go_wp2_with fail
      refine (voc_new w4).mono ?_
      rintro e w5 ⟨rfl, hVoc, B5⟩
      have HB5 := keepH (below_chain HB4.out B5)
      have HX5 := keepH (heap_below HX4.out B5)
      have HVC := keepH hVoc
      obtain ⟨vb, hvb⟩ : ∃ vb, vb = w4.heap.size := ⟨_, rfl⟩
      rw [← hvb] at HVC ⊢
      have HT5 := keepH (HTT.out.on HB5.out)
      have HW5 := keepH (HWD.out.on HB5.out)
      have HBA := keepH (below_chain HB1.out HB5.out)
      have d4 : w5.cell? ⟨P, 4, none⟩ = _ := cell_of HX5.out 4
      clear hVoc B5 hvb HB4 HX4 HTT HWD
      obtain ⟨w4, hw4⟩ : ∃ w4, w4 = w5 := ⟨_, rfl⟩
      subst hw4
      go_wp2_with fail
      go_loopw [6, 8, 10, 30] (fun s6 s8 s10 s30 wr => ∃ (i wv : Nat), i ≤ n ∧ s30 = .int .i64 (i : Int) ∧ s6 = .int .i64 (wv : Int) ∧ Hid (Below w4.heap.size w4 wr) ∧ Hid (noT (fun o => faultO o = 160) ts i ∧ ((wv = 0 ∧ noT (fun o => faultO o = 52) ts i) ∨ (wv = 52 ∧ anyO (fun o => faultO o = 52) ts)))) (fun _ _ _ s30 _ => n - (intOf s30).toNat)
      case atStart => exact ⟨0, 0, by omega, rfl, rfl, keepH (Below.refl _ _), keepH ⟨noT.zero _ _, .inl ⟨rfl, noT.zero _ _⟩⟩⟩
      case round =>
        clear d4
        obtain ⟨i, wv, hi, rfl, rfl, HBW, HA⟩ := hrel
        by_cases hlt : i < n
        · have q1 : (i : Int) < (n : Int) := by omega
          have q0 : (0 : Int) ≤ (i : Int) := by omega
          obtain ⟨l, hl⟩ : ∃ l, ts[i]? = some l := ⟨ts[i]'(by have := HN.out; omega), List.getElem?_eq_getElem _⟩
          obtain ⟨bk, off, lp, lc, rfl, hbk, hO, c0⟩ := (HT5.out.on HBW.out).get i l hl
          obtain ⟨k, hk⟩ : ∃ k, k = l.length := ⟨_, rfl⟩
          have hk1 := HS.out.ll l (List.mem_of_getElem? hl)
          rw [← hk] at c0 hk1
          have HX := keepH hl
          have HK := keepH hk
          have HO := keepH hO
          clear hl hk hbk hO
          obtain ⟨wo, hwo⟩ : ∃ wo, wo = wr := ⟨_, rfl⟩
          subst hwo
          have HC0 : Hid (∀ w, Below wo.heap.size wo w → w.cell? ⟨bk, off + i, none⟩ = some (.slice lp k lc)) := keepH (fun w hb => cell_below c0 hb)
          go_wp2_with fail
          go_loopw [6, 10, 36] (fun s6 s10 s36 wr => ∃ (j wv : Nat), j ≤ k ∧ s36 = .int .i64 (j : Int) ∧ s6 = .int .i64 (wv : Int) ∧ Hid (Below wo.heap.size wo wr) ∧ Hid (noL (fun o => faultO o = 160) l j ∧ ((wv = 0 ∧ noT (fun o => faultO o = 52) ts i ∧ noL (fun o => faultO o = 52) l j) ∨ (wv = 52 ∧ anyO (fun o => faultO o = 52) ts)))) (fun _ _ s36 _ => k - (intOf s36).toNat)
          case atStart => exact ⟨0, wv, by omega, rfl, rfl, keepH (Below.refl _ _), keepH ⟨noL.zero _ _, HA.out.2.elim (fun h => .inl ⟨h.1, h.2, noL.zero _ _⟩) .inr⟩⟩
          case round =>
            clear c0
            obtain ⟨j, wv, hj, rfl, rfl, HBX, HAL⟩ := hrel
            by_cases hlj : j < k
            · have r1 : (j : Int) < (k : Int) := by omega
              have r0 : (0 : Int) ≤ (j : Int) := by omega
              obtain ⟨o, ho⟩ : ∃ o, l[j]? = some o := ⟨l[j]'(by have := HK.out; omega), List.getElem?_eq_getElem _⟩
              obtain ⟨bk2, off2, kp, kc, rfl, hbk2, hKR, a0, a1, a2, a3, a4, a5, a6, a7, a8, a9, a10⟩ := (HO.out.on HBX.out).get j o ho
              have HY := keepH ho
              have hoo := (HS.out.ok l (List.mem_of_getElem? HX.out) o (List.mem_of_getElem? ho)).1
              obtain ⟨ok, key, val, old, hnd, set, rt, ri, keys, lo, hi2⟩ := o
              simp only at a0 a1 a2 a3 a4 a5 a6 a7 a8 a9 a10
              obtain ⟨nk, hnk⟩ : ∃ nk, nk = keys.length := ⟨_, rfl⟩
              rw [← hnk] at a8
              obtain ⟨w6, hw6⟩ : ∃ w6, w6 = wr.alloc (.cells (opR ok key val old hnd set rt ri (.slice kp nk kc) lo hi2) 28) := ⟨_, rfl⟩
              obtain ⟨D, hD⟩ : ∃ D, D = wr.heap.size := ⟨_, rfl⟩
              have C6 : Below wr.heap.size wr w6 := by rw [hw6]; exact below_alloc _ _
              have X6 : w6.heap[D]? = some (.cells (opR ok key val old hnd set rt ri (.slice kp nk kc) lo hi2) 28 (0, 0)) := by rw [hw6, hD]; exact heap_alloc_new _ _
              have HB6 := keepH (below_chain HBX.out C6)
              have HFT := keepH (fault_any vb ok key val old hnd set rt ri kp nk kc lo hi2 hoo.k hoo.key hoo.val hoo.old hoo.hnd hoo.lo hoo.hi hoo.rt hoo.ri w6 (HVC.out.on (below_chain HBW.out HB6.out)) (HW5.out.on (below_chain HBW.out HB6.out)))
              obtain ⟨fa, hfa⟩ : ∃ fa, fa = faultN ok key val old hnd set rt ri kp nk kc lo hi2 := ⟨_, rfl⟩
              rw [← hfa] at HFT
              have hfo : faultO ⟨ok, key, val, old, hnd, set, rt, ri, keys, lo, hi2⟩ = fa := by rw [hfa, hnk]; rfl
              have hfl := fault_lt ⟨ok, key, val, old, hnd, set, rt, ri, keys, lo, hi2⟩
              rw [hfo] at hfl
              have HFO := keepH hfo
              have d0 : w6.cell? ⟨D, 0, none⟩ = _ := cell_of X6 0
              have d1 : w6.cell? ⟨D, 1, none⟩ = _ := cell_of X6 1
              have d2 : w6.cell? ⟨D, 2, none⟩ = _ := cell_of X6 2
              have d3 : w6.cell? ⟨D, 3, none⟩ = _ := cell_of X6 3
              have d4 : w6.cell? ⟨D, 4, none⟩ = _ := cell_of X6 4
              have d5 : w6.cell? ⟨D, 5, none⟩ = _ := cell_of X6 5
              have d6 : w6.cell? ⟨D, 6, none⟩ = _ := cell_of X6 6
              have d7 : w6.cell? ⟨D, 7, none⟩ = _ := cell_of X6 7
              have d8 : w6.cell? ⟨D, 8, none⟩ = _ := cell_of X6 8
              have d9 : w6.cell? ⟨D, 9, none⟩ = _ := cell_of X6 9
              have d10 : w6.cell? ⟨D, 10, none⟩ = _ := cell_of X6 10
              have HW6 := keepH hw6
              have HD := keepH hD
              clear ho hKR hbk2 hnk hw6 hD C6 X6 hoo hfa hfo
              go_upto_region 13 with fail
              rw [← HW6.out, ← HD.out]
              clear HW6 HD a0 a1 a2 a3 a4 a5 a6 a7 a8 a9 a10
              rcases hfl with rfl | hfl
              · have HR : Hid (V = 160) := keepH (by rw [HV.out]; exact rtS_op HE.out.symm HLO.out (anyO_at HX.out HY.out HFO.out))
                go_wp2_with fail
                refine HFT.out.mono ?_
                rintro e w7 ⟨rfl, C7⟩
                have HB7 := keepH (below_chain (below_chain (below_chain HBA.out HBW.out) HB6.out) C7)
                clear C7
                go_wp2_with fail
                go_ret
                exact ⟨by rw [HR.out]; rfl, HB7.out⟩
              · have q1 : ¬ (fa : Int) = 160 := by omega
                have b1 : ((fa : Int) == 160) = false := by simp; omega
                have HNX : Hid (noL (fun o => faultO o = 160) l (j + 1)) := keepH (HAL.out.1.next HY.out (fun h => by have h2 := HFO.out.symm.trans h; omega))
                by_cases h52 : fa = 52
                · subst h52
                  have HNW2 : Hid (anyO (fun o => faultO o = 52) ts) := keepH (anyO_at HX.out HY.out HFO.out)
                  clear hfl
                  go_wp2_with fail
                  refine HFT.out.mono ?_
                  rintro e w7 ⟨rfl, C7⟩
                  have HB7 := keepH (below_chain HB6.out C7)
                  clear C7
                  go_wp2_with fail
                  go_roundw
                  case rel => exact ⟨j + 1, 52, by omega, by first | rfl | go_num, rfl, HB7, keepH ⟨HNX.out, .inr ⟨rfl, HNW2.out⟩⟩⟩
                  case measure => simp [intOf]; omega
                · have q2 : ¬ (fa : Int) = 52 := by omega
                  have b2 : ((fa : Int) == 52) = false := by simp; omega
                  have HNX2 : Hid ((wv = 0 ∧ noT (fun o => faultO o = 52) ts i ∧ noL (fun o => faultO o = 52) l (j + 1)) ∨ (wv = 52 ∧ anyO (fun o => faultO o = 52) ts)) := keepH (HAL.out.2.elim (fun h => .inl ⟨h.1, h.2.1, h.2.2.next HY.out (fun h => h52 (HFO.out.symm.trans h))⟩) .inr)
                  clear hfl h52
                  go_wp2_with fail
                  refine HFT.out.mono ?_
                  rintro e w7 ⟨rfl, C7⟩
                  have HB7 := keepH (below_chain HB6.out C7)
                  clear C7
                  go_wp2_with fail
                  go_roundw
                  case rel => exact ⟨j + 1, wv, by omega, by first | rfl | go_num, rfl, HB7, keepH ⟨HNX.out, HNX2.out⟩⟩
                  case measure => simp [intOf]; omega
            · obtain rfl : j = k := by omega
              have r1 : ¬ (j : Int) < (j : Int) := by omega
              have HNX : Hid (noT (fun o => faultO o = 160) ts (i + 1) ∧ ((wv = 0 ∧ noT (fun o => faultO o = 52) ts (i + 1)) ∨ (wv = 52 ∧ anyO (fun o => faultO o = 52) ts))) := keepH ⟨HA.out.1.next HX.out (by rw [← HK.out]; exact HAL.out.1), HAL.out.2.elim (fun h => .inl ⟨h.1, h.2.1.next HX.out (by rw [← HK.out]; exact h.2.2)⟩) .inr⟩
              have HB7 := keepH (below_chain HBW.out HBX.out)
              go_wp2_with fail
              go_roundw
              case rel => exact ⟨i + 1, wv, by omega, by first | rfl | go_num, rfl, HB7, HNX⟩
              case measure => simp [intOf]; omega
        · obtain rfl : i = n := by omega
          have q1 : ¬ (i : Int) < (i : Int) := by omega
          have HR : Hid (V = wv) := keepH (by
            rw [HV.out]
            have h1 : ¬ anyO (fun o => faultO o = 160) ts := noT.all (by rw [← HN.out]; exact HA.out.1)
            rcases HA.out.2 with ⟨rfl, h⟩ | ⟨rfl, h⟩
            · exact rtS_ok HE.out.symm HLO.out h1 (noT.all (by rw [← HN.out]; exact h))
            · exact rtS_form HE.out.symm HLO.out h1 h)
          have HB7 := keepH (below_chain HBA.out HBW.out)
          go_wp2_with fail
          go_ret
          exact ⟨by rw [HR.out]; rfl, HB7.out⟩
end Go.Proofs.YtmmaniolaljjlaaGreatDoor
/- A line of a script's text, written into a builder. -/
namespace Go.Proofs.YtmmaniolaljjlaaGreatDoor
open Go.RowKit Go.Shelf
set_option linter.unusedVariables false

set_option maxHeartbeats 2000000 in
set_option maxRecDepth 100000 in
theorem wbk_any (B b : Nat) (bs : List Value) (c : Nat) (w : World) (h : Lib.IsBuilderF 79 5 B b bs w) (hlen : bs.length + 1 ≤ 140737488355328) (hBw : B ≤ w.heap.size) :
    Calls Tryz.prog 41 #[.pointer (some ⟨b, 0, none⟩), .int .u8 (c : Int)] w fun e w' => e = .returned .nilIface ∧ Lib.IsBuilderF 79 5 B b (bs ++ [.int .u8 (c : Int)]) w' ∧ Below B w w' ∧ Lib.OthersKept 5 (some b) w w' := by
  obtain ⟨i0, hi, hz0, hz1, hz2⟩ := info_parts bX.infoByte
  go_enter Tryz.func41, Tryz.ntmps41
  go_wp2_with (go_at_call 82; refine (cc_any B b bs _ h).mono ?_; rintro e w1 ⟨rfl, h1, hb1, hk1⟩; refine Hid.out ?_)
  obtain ⟨hB, v, hbk, hown, hne⟩ := h1
  have c0 := cell_of hbk 0
  have c1 := cell_of hbk 1
  refine Lib.hid ?_
  obtain ⟨w2, hw2⟩ : ∃ w2, w2 = w1.alloc (.cells #[.int .u8 (c : Int)] 5) := ⟨_, rfl⟩
  have X2 : ∀ j u, [Value.int .u8 (c : Int)][j]? = some u → w2.cell? ((⟨w1.heap.size, 0, none⟩ : Addr).add j) = some u := by rw [hw2]; exact cells_newR w1 _ rfl #[.int .u8 (c : Int)] 5
  have hown2 : w2.ownsRowF B 5 1 v bs.length bs := by rw [hw2]; exact hown.alloc _
  have hb2' : w2.heap[b]? = some (.cells #[.pointer (some ⟨b, 0, none⟩), v] 79 (0, 0)) := by rw [hw2]; exact alloc_of hbk _
  have hs2 : w1.heap.size ≤ w2.heap.size := by rw [hw2]; simp
  have bel2 : Below B w w2 := by rw [hw2]; exact hb1.alloc (Nat.le_trans hBw hb1.size) _
  have HK2 : Hid (Lib.OthersKept 5 (some b) w w2) := keepH (by rw [hw2]; exact hk1.alloc _)
  have HW2 := keepH hw2
  clear hw2
  go_wp2_with (at_builtin; rw [← HW2.out]; refine wpList_append_ownF _ rfl _ _ 77 rfl B 5 i0 (.int .u8 0) 1 1 Tryz.underlying77 hi hz0 hz1 hz2 rfl (by decide) _ _ _ rfl hown2 ⟨w1.heap.size, 0, none⟩ 1 1 [.int .u8 (c : Int)] rfl rfl X2 (by intro u hu; simp at hu; subst hu; rfl) ?c3 ?c4 ?c5 ?_)
  case c3 => unfold maxLen; omega
  case c4 => omega
  case c5 => have := hb1.size; omega
  intro v' w3 hown' hgrow _
  have hlt := lt_of hb2'
  have hb3 : w3.heap[b]? = some (.cells #[.pointer (some ⟨b, 0, none⟩), v] 79 (0, 0)) := (hgrow.block b hlt (fun e => hne e.symm)).trans hb2'
  have d0 := cell_of hb3 0
  have d1 := cell_of hb3 1
  have f1 := free_of hb3 1
  obtain ⟨ao, n', cap, rfl⟩ : ∃ ao n' cap, v' = .slice ao n' cap := by
    rcases hown'.2 with ⟨hv, _⟩ | ⟨g, cap, cur, fz, hv, _⟩
    · exact ⟨_, _, _, hv⟩
    · exact ⟨_, _, _, hv⟩
  go_wp2
  go_ret
  refine ⟨rfl, Or.inr (Lib.BuilderAtF.put (T := 79) (e := 5) hB hb3 (bs' := bs ++ [.int .u8 (c : Int)]) (by simpa using hown') (by decide)), ?_, (HK2.out.grown hgrow (Lib.ownsRowF_kind hown2)).setCell ⟨b, 1, none⟩ rfl _⟩
  exact (bel2.grown hgrow (by have := bel2.size; omega) (fun k hk => (hown2.lt k hk).1)).setCell (p := ⟨b, 1, none⟩) hB _
theorem atF_onS {T e : TypeId} {B b : Nat} {p : Value} {bs : List Value} {w w' : World} (h : Lib.BuilderAtF T e B b p bs w) (hb : Below w.heap.size w w') : Lib.BuilderAtF T e B b p bs w' := by
  obtain ⟨hB, v, hbk, ⟨h1, h2⟩, hne⟩ := h
  refine ⟨hB, v, heap_below hbk hb, ⟨h1, ?_⟩, hne⟩
  rcases h2 with h2 | ⟨g, cap, cur, fz, hv, hbg, hg, r⟩
  · exact Or.inl h2
  · exact Or.inr ⟨g, cap, cur, fz, hv, hbg, heap_below hg hb, r⟩
theorem isF_onS {T e : TypeId} {B b : Nat} {bs : List Value} {w w' : World} (h : Lib.IsBuilderF T e B b bs w) (hb : Below w.heap.size w w') : Lib.IsBuilderF T e B b bs w' := h.elim (fun x => Or.inl (atF_onS x hb)) (fun x => Or.inr (atF_onS x hb))
theorem ok_bel {e : TypeId} {b : Option Nat} {w w' : World} (h : Below w.heap.size w w') : Lib.OthersKept e b w w' := fun k o hk _ _ => (h.block k (Array.getElem?_eq_some_iff.1 hk).1).trans hk
def lnT (fs : List (List UInt8)) : List UInt8 := Lib.join fs [32] ++ [10]
set_option maxRecDepth 100000 in
set_option maxHeartbeats 2000000 in
theorem line_any (B b bk c : Nat) (t : List UInt8) (fs : List (List UInt8)) (w : World) (h : Lib.IsBuilderF 79 5 B b (Lib.byteCells t) w) (hBw : B ≤ w.heap.size) (hcells : ∀ (j : Nat) f, fs[j]? = some f → w.cell? ⟨bk, j, none⟩ = some (.string (mkS f))) (hbk : bk < w.heap.size) (hN : fs.length ≤ 1000000000) (hcap : fs.length ≤ c) (hlen : (Lib.join fs [32]).length ≤ 100000000000) (ht : t.length ≤ 100000000000) :
    Calls Tryz.prog 38 #[.slice (some ⟨bk, 0, none⟩) fs.length c, .pointer (some ⟨b, 0, none⟩)] w fun e w' => e = .returned (.tuple #[]) ∧ Lib.IsBuilderF 79 5 B b (Lib.byteCells (t ++ lnT fs)) w' ∧ Below B w w' ∧ Lib.OthersKept 5 (some b) w w' := by
  have HJ := keepH (join_any bk c fs w hcells hbk (by omega) hcap (by omega))
  obtain ⟨n, hn⟩ : ∃ n, n = fs.length := ⟨_, rfl⟩
  rw [← hn] at HJ ⊢
  have HB := keepH h
  have HBW := keepH hBw
  obtain ⟨sj, hsj⟩ : ∃ s, s = mkS (Lib.join fs [32]) := ⟨_, rfl⟩
  rw [← hsj] at HJ
  have HSJ := keepH hsj
  have hsz : sj.size = (Lib.join fs [32]).length := by rw [hsj, mkS_size]
  have HSZ := keepH hsz
  have HLN := keepH (And.intro hlen ht)
  clear h hBw hcells hbk hN hcap hlen ht hn hsj hsz
  go_enter Tryz.func38, Tryz.ntmps38
  go_wp2_with fail
  refine HJ.out.mono ?_
  rintro e w1 ⟨rfl, C1⟩
  have h1 := isF_onS HB.out C1
  have hws := ws_any B b _ sj w1 h1 (by rw [Lib.byteCells_length, HSZ.out]; have := HLN.out; omega) (Nat.le_trans HBW.out C1.size)
  have HWS := keepH hws
  have HC1 := keepH C1
  clear C1 h1 hws
  go_wp2_with fail
  refine HWS.out.mono ?_
  rintro e w2 ⟨rfl, F2, C2, K2⟩
  have hwb := wbk_any B b _ 10 w2 F2 (by rw [List.length_append, Lib.byteCells_length, Lib.strCells_length, HSZ.out]; have := HLN.out; omega) (Nat.le_trans (Nat.le_trans HBW.out HC1.out.size) C2.size)
  have HWB := keepH hwb
  have HC2 := keepH C2
  have HK2 := keepH K2
  clear F2 C2 K2 hwb
  go_wp2_with fail
  refine HWB.out.mono ?_
  rintro e w3 ⟨rfl, F3, C3, K3⟩
  have HF3 : Hid (Lib.IsBuilderF 79 5 B b (Lib.byteCells (t ++ lnT fs)) w3) := keepH (by
    have e : Lib.byteCells (t ++ lnT fs) = Lib.byteCells t ++ Lib.strCells sj ++ [.int .u8 ((10 : Nat) : Int)] := by
      rw [HSJ.out]
      simp [Lib.byteCells, Lib.strCells, lnT]
    rw [e]
    exact F3)
  have HC3 : Hid (Below B w w3) := keepH (((HC1.out.mono HBW.out).trans HC2.out).trans C3)
  have HK3 : Hid (Lib.OthersKept 5 (some b) w w3) := keepH (((ok_bel HC1.out).trans HK2.out).trans K3)
  clear F3 C3 K3
  go_wp2_with fail
  refine bodyPost_end (v := .tuple #[]) (by simp [results, Tryz.results38, go_sem]) rfl ?_
  exact ⟨rfl, HF3.out, HC3.out, HK3.out⟩
end Go.Proofs.YtmmaniolaljjlaaGreatDoor
/- Lines of picks, by both; the line of a config, by the document. -/
namespace Go.Proofs.YtmmaniolaljjlaaGreatDoor
open Go.RowKit Go.Shelf
set_option linter.unusedVariables false

def pkW : List UInt8 := [112, 105, 99, 107, 115]
def pkL (l : List Int) : List (List UInt8) := pkW :: l.map Lib.itoa
def pkT (l : List Int) : List UInt8 := Lib.join (pkL l) [32]
theorem pkT_len (l : List Int) (h : ∀ x ∈ l, isI x) : (pkT l).length ≤ 101 * (l.length + 1) := by
  have := join_len (pkL l) (fun f hf => by
    rcases List.mem_cons.1 hf with rfl | hf
    · decide
    · obtain ⟨x, hx, rfl⟩ := List.mem_map.1 hf
      have := itoa_len (h x hx)
      omega)
  unfold pkT
  simpa [pkL] using this
set_option maxRecDepth 100000 in
set_option maxHeartbeats 4000000 in
theorem picksParts_any (p : Option Addr) (c : Nat) (l : List Int) (hl : l.length ≤ 10000000) (hI : ∀ x ∈ l, isI x) (W : World) (T : Tb W) (hR : IRd W p l) :
    Calls Tryz.prog 42 #[.slice p l.length c] W fun e W' => ∃ v, e = .returned v ∧ StR W (pkL l) v W' := by
  have HIT := keepH (fun x (hx : isI x) w (hb : Below W.heap.size W w) => itoa_any x hx.1 hx.2 w (T.on hb))
  have HII := keepH hI
  have HR := keepH hR
  obtain ⟨n, hn⟩ : ∃ n, n = l.length := ⟨_, rfl⟩
  have HN := keepH hn
  rw [← hn] at hl ⊢
  obtain ⟨i0, hi0, hz0, hz1, hz2⟩ := info_parts infoStr
  have HI := keepH hi0
  obtain ⟨wa, hwa⟩ : ∃ wa, wa = W.alloc (.cells #[.string ⟨#[112, 105, 99, 107, 115]⟩] 9) := ⟨_, rfl⟩
  have HRa : Hid (StR W [pkW] (.slice (some ⟨W.heap.size, 0, none⟩) 1 1) wa) := keepH (by rw [hwa]; exact StR.one W W (Below.refl _ _) pkW)
  have HWA := keepH hwa
  clear hI hR T hn hi0 hwa
  go_enter Tryz.func42, Tryz.ntmps42
  go_upto_region 2 with fail
  rw [← HWA.out]
  go_wp2_with fail
  go_loopw [3, 5, 9] (fun v s5 s wr => ∃ i : Nat, i ≤ n ∧ s = .int .i64 (i : Int) ∧ Hid (StR W (pkL (l.take i)) v wr)) (fun _ _ s _ => n - (intOf s).toNat)
  case atStart => exact ⟨0, by omega, rfl, keepH (by simpa [pkL] using HRa.out)⟩
  case round =>
    obtain ⟨i, him, rfl, HST⟩ := hrel
    by_cases hlt : i < n
    · have t1 : (i : Int) < (n : Int) := by omega
      have t0 : (0 : Int) ≤ (i : Int) := by omega
      obtain ⟨x, hx⟩ : ∃ x, l[i]? = some x := ⟨l[i]'(by have := HN.out; omega), List.getElem?_eq_getElem _⟩
      obtain ⟨bk, off, rfl, hbk, c0⟩ := (HR.out.on HST.out.bel).get i x hx
      have HQ := keepH (HIT.out x (HII.out x (List.mem_of_getElem? hx)) wr HST.out.bel)
      obtain ⟨sx, hsx⟩ : ∃ s, s = mkS (Lib.itoa x) := ⟨_, rfl⟩
      rw [← hsx] at HQ
      have HSX := keepH hsx
      have HPN : Hid (pkL (l.take (i + 1)) = pkL (l.take i) ++ [Lib.itoa x]) := keepH (by unfold pkL; rw [List.take_add_one, hx]; simp)
      obtain ⟨ls, hls⟩ : ∃ ls, ls = pkL (l.take i) := ⟨_, rfl⟩
      rw [← hls] at HST HPN
      obtain ⟨fl, hfl⟩ : ∃ fl, fl = ls.length := ⟨_, rfl⟩
      have hfl2 : fl ≤ 10000001 := by rw [hfl, hls]; simp [pkL]; omega
      have HFL := keepH hfl
      clear hx hsx hls hfl hbk
      have hi := HI.out
      go_wp2_with (first | (go_at_call 29; refine HQ.out.mono ?_; rintro e w2 ⟨rfl, B2⟩; have HS2 := keepH (HST.out.on B2); have HRW : Hid (w2.ownsRow 0 9 1 u3 fl (strsRow ls)) := keepH (by rw [HFL.out]; exact HS2.out.row); clear B2) | (at_builtin; refine wpList_append_own_at _ rfl (.tmp 13) (.tmp 16) 67 rfl 0 9 i0 (.string ⟨#[]⟩) 1 16 Tryz.underlying67 hi hz0 hz1 hz2 rfl (by decide) u3 fl (strsRow ls) rfl (HRW.out.alloc _) ⟨w2.heap.size, 0, none⟩ 1 1 [.string sx] rfl rfl (cells_newR _ _ rfl _ _) (by intro u hu; simp at hu; rcases hu with rfl; rfl) (by unfold maxLen; omega) (by omega) (Nat.zero_le _) ?_; intro v2 w3 r1 r2 r3 r4; have R1 := keepH r1; have R2 := keepH r2; have R4 := keepH r4; clear r1 r2 r3 r4) | go_in)
      have HNX : Hid (StR W (pkL (l.take (i + 1))) v2 w3) := keepH (by
        rw [HPN.out]
        exact HS2.out.more (r := Lib.itoa x) (by rw [← HSX.out, ← HFL.out]; exact R1.out) R2.out R4.out)
      go_roundw
      case rel => exact ⟨i + 1, by omega, by first | rfl | go_num, HNX⟩
      case measure => simp [intOf]; omega
    · obtain rfl : i = n := by omega
      have t1 : ¬ (i : Int) < (i : Int) := by omega
      have HE : Hid (StR W (pkL l) u3 wr) := keepH (by
        have := HST.out
        rw [HN.out, List.take_length] at this
        exact this)
      go_wp2_with fail
      go_ret
      exact ⟨_, rfl, HE.out⟩
end Go.Proofs.YtmmaniolaljjlaaGreatDoor
/- The line of a config, by the document. (mkSen.py) -/
namespace Go.Proofs.YtmmaniolaljjlaaGreatDoor
open Go.RowKit Go.Shelf
set_option linter.unusedVariables false

def cfW : List UInt8 := [99, 111, 110, 102, 105, 103]
def cfL (ce sl : Int) (stp : Nat) (mu : Int) : List (List UInt8) := [cfW, Lib.itoa ce, Lib.itoa sl, Lib.decDigits stp, Lib.itoa mu]
def cfT (ce sl : Int) (stp : Nat) (mu : Int) : List UInt8 := Lib.join (cfL ce sl stp mu) [32]
theorem cfT_len {ce sl : Int} {stp : Nat} {mu : Int} (h1 : isI ce) (h2 : isI sl) (h3 : isU stp) (h4 : isI mu) : (cfT ce sl stp mu).length ≤ 505 := by
  have := join_len (cfL ce sl stp mu) (fun f hf => by
    simp [cfL] at hf
    have a := itoa_len h1
    have b := itoa_len h2
    have c := dec_len h3
    have d := itoa_len h4
    rcases hf with rfl | rfl | rfl | rfl | rfl
    · decide
    all_goals omega)
  unfold cfT
  simpa [cfL] using this
end Go.Proofs.YtmmaniolaljjlaaGreatDoor
/- The text of a script. -/
namespace Go.Proofs.YtmmaniolaljjlaaGreatDoor
open Go.RowKit Go.Shelf
set_option linter.unusedVariables false

def thW : List UInt8 := [116, 104, 114, 101, 97, 100]
def opsT (l : List Opx) : List UInt8 := (l.map (fun o => textO o ++ [10])).flatten
def thT (l : List Opx) : List UInt8 := (thW ++ [10]) ++ opsT l
def thsT (ts : List (List Opx)) : List UInt8 := (ts.map thT).flatten
def pksT (l : List Int) : List UInt8 := if h : l = [] then [] else (pkT (l.take 20) ++ [10]) ++ pksT (l.drop 20)
  termination_by l.length
  decreasing_by
    have : 0 < l.length := List.length_pos_iff.2 h
    simp
    omega
theorem pksT_nil : pksT [] = [] := by rw [pksT]; simp
theorem pksT_step {l : List Int} (h : l ≠ []) : pksT l = (pkT (l.take 20) ++ [10]) ++ pksT (l.drop 20) := by rw [pksT]; simp [h]
def texS (ce sl : Int) (stp : Nat) (mu : Int) (ts : List (List Opx)) (ps : List Int) : List UInt8 := (cfT ce sl stp mu ++ [10]) ++ (thsT ts ++ pksT ps)
theorem opsT_cons (o : Opx) (l : List Opx) : opsT (o :: l) = (textO o ++ [10]) ++ opsT l := by simp [opsT]
theorem thsT_cons (l : List Opx) (ts : List (List Opx)) : thsT (l :: ts) = thT l ++ thsT ts := by simp [thsT]
theorem drop_at {α : Type} {l : List α} {i : Nat} {x : α} (h : l[i]? = some x) : l.drop i = x :: l.drop (i + 1) := by
  obtain ⟨hi, rfl⟩ := List.getElem?_eq_some_iff.1 h
  exact List.drop_eq_getElem_cons hi
theorem rt0_all {ce sl : Int} {stp : Nat} {mu : Int} {ts : List (List Opx)} {ps : List Int} (h : rtS ce sl stp mu ts ps = 0) : ∀ l ∈ ts, ∀ o ∈ l, faultO o = 0 := by
  intro l hl o ho
  unfold rtS at h
  split at h
  · omega
  · split at h
    · omega
    · rename_i h2
      split at h
      · omega
      · rename_i h3
        split at h
        · omega
        · rename_i h4
          rcases fault_lt o with e | e | e | e
          · exact absurd ⟨l, hl, o, ho, e⟩ h3
          · exfalso
            apply h2
            refine .inr ⟨l, hl, o, ho, ?_⟩
            unfold faultO faultN at e
            split at e
            · omega
            · split at e
              · rename_i q; exact q
              · split at e
                · omega
                · have key : ∀ c : Bool, ¬ (if c = true then 0 else 52) = 6 := fun c h => by cases c <;> simp at h
                  exact absurd e (key _)
          · exact absurd ⟨l, hl, o, ho, e⟩ h4
          · exact e
/-- while a script is printed -/
structure PB (W : World) (B b P : Nat) (row : Array Value) (t : List UInt8) (wr : World) : Prop where
  bel : Below W.heap.size W wr
  bld : Lib.IsBuilderF 79 5 B b (Lib.byteCells t) wr
  box : wr.heap[P]? = some (.cells row 46 (0, 0))
  lP : P < B
  lW : W.heap.size ≤ B
  hi : B ≤ wr.heap.size
theorem PB.on {W : World} {B b P : Nat} {row : Array Value} {t : List UInt8} {wr X : World} (h : PB W B b P row t wr) (hb : Below wr.heap.size wr X) : PB W B b P row t X :=
  ⟨below_chain h.bel hb, isF_onS h.bld hb, heap_below h.box hb, h.lP, h.lW, Nat.le_trans h.hi hb.size⟩
theorem PB.wrote {W : World} {B b P : Nat} {row : Array Value} {t t' : List UInt8} {wr X : World} (h : PB W B b P row t wr) (hf : Lib.IsBuilderF 79 5 B b (Lib.byteCells t') X) (hb : Below B wr X) : PB W B b P row t' X :=
  ⟨h.bel.trans (hb.mono h.lW), hf, (hb.block P h.lP).trans h.box, h.lP, h.lW, Nat.le_trans h.hi hb.size⟩
theorem voc_kept {w w' : World} {vb b : Nat} (h : IsVoc w vb) (hk : Lib.OthersKept 5 (some b) w w') (hne : vb ≠ b) : IsVoc w' vb := hk vb _ h (fun e => hne (Option.some.inj e)) (fun _ _ e => by cases e)
theorem sli_lo (p : Option Addr) (n c i : Nat) (hi : i ≤ n) (hcap : n ≤ c) (bk off : Nat) (hp : p = some ⟨bk, off, none⟩) : ∀ w, (Instr.slice 44 (.slice p n c) none (some (.int .i64 (i : Int))) none).run Tryz.prog w = .ok (.slice p i c) w := by
  intro w
  subst hp
  have hb := run_sliceBound (P := Tryz.prog) (w := w) .i64 (i : Int) c .sliceAcap (by omega) (by omega)
  simp [Instr.slice, run_underlying Tryz.underlying44, Instr.sliceBounds, Result.andThen, hb, Addr.add]
theorem sli_hi (n c i bk off : Nat) (hi : i ≤ n) (hcap : n ≤ c) : ∃ off', (∀ w, (Instr.slice 44 (.slice (some ⟨bk, off, none⟩) n c) (some (.int .i64 (i : Int))) none none).run Tryz.prog w = .ok (.slice (some ⟨bk, off', none⟩) (n - i) (c - i)) w) ∧ (i < c → off' = off + i) := by
  by_cases e : c = i
  · refine ⟨off, fun w => ?_, fun h => by omega⟩
    have hn : n = i := by omega
    have hb := run_sliceBound (P := Tryz.prog) (w := w) .i64 (i : Int) i .sliceB (by omega) (by omega)
    simp [Instr.slice, run_underlying Tryz.underlying44, Instr.sliceBounds, Result.andThen, e, hn, hb]
  · refine ⟨off + i, fun w => ?_, fun _ => rfl⟩
    have hb := run_sliceBound (P := Tryz.prog) (w := w) .i64 (i : Int) n .sliceB (by omega) (by omega)
    simp [Instr.slice, run_underlying Tryz.underlying44, Instr.sliceBounds, Result.andThen, e, hb, Addr.add]
    try (unfold Addr.add; split <;> simp_all)
theorem IRd.drop {W : World} {bk off off' : Nat} {l : List Int} {i : Nat} (h : IRd W (some ⟨bk, off, none⟩) l) (e : i < l.length → off' = off + i) : IRd W (some ⟨bk, off', none⟩) (l.drop i) := by
  rcases h with rfl | ⟨bk', off2, hp, hb, h⟩
  · exact .inl (by simp)
  · simp only [Option.some.injEq, Addr.mk.injEq, and_true] at hp
    obtain ⟨rfl, rfl⟩ := hp
    refine .inr ⟨bk, off', rfl, hb, fun j x hx => ?_⟩
    rw [List.getElem?_drop] at hx
    have hlt := (List.getElem?_eq_some_iff.1 hx).1
    rw [e (by omega), Nat.add_assoc]
    exact h _ _ hx
theorem IRd.take {W : World} {p : Option Addr} {l : List Int} (h : IRd W p l) (i : Nat) : IRd W p (l.take i) := by
  rcases h with rfl | ⟨bk, off, hp, hb, h⟩
  · exact .inl (by simp)
  · refine .inr ⟨bk, off, hp, hb, fun j x hx => ?_⟩
    rw [List.getElem?_take] at hx
    split at hx
    · exact h j x hx
    · cases hx
def slNp : Value → Nat
  | .slice _ n _ => n
  | _ => 0
theorem PB.line1 {W : World} {B b P : Nat} {row : Array Value} {t : List UInt8} {w : World} (h : PB W B b P row t w) (r : List UInt8) (G : Nat) (hG : w.heap[G]? = some (.cells #[.string (mkS r)] 9 (0, 0))) (ht : t.length ≤ 100000000000) (hr : r.length ≤ 100000000000) :
    Calls Tryz.prog 38 #[.slice (some ⟨G, 0, none⟩) 1 1, .pointer (some ⟨b, 0, none⟩)] w fun e w' => e = .returned (.tuple #[]) ∧ PB W B b P row (t ++ (r ++ [10])) w' ∧ Lib.OthersKept 5 (some b) w w' := by
  have e1 : Lib.join [r] [32] = r := by simp [Lib.join]
  have hl := line_any B b G 1 t [r] w h.bld h.hi (fun j f hj => by
    rw [cell_of hG j]
    match j with
    | 0 => simp at hj ⊢; rw [hj]
    | j + 1 => simp at hj) (Array.getElem?_eq_some_iff.1 hG).1 (by simp) (by simp) (by rw [e1]; exact hr) ht
  refine hl.mono ?_
  rintro e w' ⟨rfl, F, C, K⟩
  refine ⟨rfl, h.wrote ?_ C, K⟩
  rw [lnT, e1] at F
  exact F
theorem PB.lineN {W : World} {B b P : Nat} {row : Array Value} {t : List UInt8} {w : World} (h : PB W B b P row t w) (fs : List (List UInt8)) (g c : Nat) (hg : g < w.heap.size) (hc : fs.length ≤ c) (hcl : ∀ (j : Nat) f, fs[j]? = some f → w.cell? ⟨g, j, none⟩ = some (.string (mkS f))) (hn : fs.length ≤ 1000000000) (ht : t.length ≤ 100000000000) (hr : (Lib.join fs [32]).length ≤ 100000000000) :
    Calls Tryz.prog 38 #[.slice (some ⟨g, 0, none⟩) fs.length c, .pointer (some ⟨b, 0, none⟩)] w fun e w' => e = .returned (.tuple #[]) ∧ PB W B b P row (t ++ (Lib.join fs [32] ++ [10])) w' ∧ Lib.OthersKept 5 (some b) w w' := by
  refine (line_any B b g c t fs w h.bld h.hi hcl hg hn hc hr ht).mono ?_
  rintro e w' ⟨rfl, F, C, K⟩
  exact ⟨rfl, h.wrote F C, K⟩
theorem pre_len {t r x : List UInt8} (h : t ++ r = x) : t.length ≤ x.length ∧ r.length ≤ x.length := by
  rw [← h, List.length_append]
  omega
end Go.Proofs.YtmmaniolaljjlaaGreatDoor
/- A handle that is read, by the document. -/
namespace Go.Proofs.YtmmaniolaljjlaaGreatDoor
open Go.RowKit Go.Shelf
set_option linter.unusedVariables false

def RfQ (f : List UInt8) (hnd : Nat) (set : Bool) (rt ri : Int) : Prop := isU hnd ∧ isI rt ∧ isI ri ∧ ∀ h s a b, isU h → isI a → isI b → rhB h s a b = true → f = hText h s a b → hnd = h ∧ set = s ∧ rt = a ∧ ri = b
theorem rf_nat {f : List UInt8} {u : Nat} (hn : f.head? ≠ some 64) (hu : isU u) (hz : ∀ z, natP f = some z → u = z) : RfQ f u false 0 0 := by
  refine ⟨hu, ⟨by omega, by omega⟩, ⟨by omega, by omega⟩, fun h s a b hh ha hb hr he => ?_⟩
  cases s with
  | true =>
    exfalso
    have := (hText_head (h := h) (s := true) (a := a) (b := b)).2 rfl
    rw [← he] at this
    exact hn this
  | false =>
    have e2 : f = Lib.decDigits h := he
    have := hz h (by rw [e2]; exact natP_dec h hh)
    simp [rhB] at hr
    exact ⟨this, rfl, hr.1.symm, hr.2.symm⟩
theorem rf_ref {r l q : List UInt8} {x y : Int} (hc : CutP r l q) (hx : isI x) (hy : isI y) (zx : ∀ z, Lib.atoiAll l = .ok z → x = z) (zy : ∀ z, Lib.atoiAll q = .ok z → y = z) : RfQ (64 :: r) 0 true x y := by
  refine ⟨by unfold isU; omega, hx, hy, fun h s a b hh ha hb hr he => ?_⟩
  have hs : s = true := hText_head.1 (by rw [← he]; rfl)
  subst hs
  have e3 : r = Lib.itoa a ++ 46 :: Lib.itoa b := by simpa [hText] using he
  have h0 : h = 0 := by simp [rhB] at hr; exact hr.1
  rcases hc with ⟨rfl, hl⟩ | ⟨hn, _, _⟩
  · obtain ⟨e4, e5⟩ := noB_cutG hl (itoa_dot a) e3
    exact ⟨h0.symm, rfl, zx a (by rw [e4]; exact atoi_itoa a ha.1 ha.2), zy b (by rw [e5]; exact atoi_itoa b hb.1 hb.2)⟩
  · exact absurd rfl (hn 46 (by rw [e3]; simp))
structure RF (W : World) (P R : Nat) (row : Array Value) (wr : World) : Prop where
  bx : wr.heap[P]? = some (.cells row 28 (0, 0))
  rr : wr.heap[R]? = some (.cells (opR 0 0 0 0 0 false 0 0 (.slice none 0 0) 0 0) 28 (0, 0))
  bel : Below W.heap.size W wr
  lp : W.heap.size ≤ P
  lr : W.heap.size ≤ R
  ne : R ≠ P
theorem RF.on {W : World} {P R : Nat} {row : Array Value} {wr X : World} (h : RF W P R row wr) (hb : Below wr.heap.size wr X) : RF W P R row X := ⟨heap_below h.bx hb, heap_below h.rr hb, below_chain h.bel hb, h.lp, h.lr, h.ne⟩
theorem RF.set {W : World} {P R : Nat} {row : Array Value} {wr : World} (h : RF W P R row wr) (i : Nat) (v : Value) : RF W P R (row.setIfInBounds i v) (wr.setCell ⟨P, i, none⟩ v) := ⟨set_of h.bx i v, other_of h.rr h.ne v, h.bel.setCell h.lp _, h.lp, h.lr, h.ne⟩
end Go.Proofs.YtmmaniolaljjlaaGreatDoor
/- An operation that is read, by the program. (mkScp.py) -/
namespace Go.Proofs.YtmmaniolaljjlaaGreatDoor
open Go.RowKit Go.Shelf
set_option linter.unusedVariables false

def zeroO : Opx := ⟨0, 0, 0, 0, 0, false, 0, 0, [], 0, 0⟩
def opV (o : Opx) (kp : Option Addr) (kc : Nat) : Array Value := opR o.k o.key o.val o.old o.hnd o.set o.rt o.ri (.slice kp o.keys.length kc) o.lo o.hi
theorem pq_no {t : List UInt8} (h : ∀ o', rightO o' → t ≠ textO o') : PQ t false zeroO := ⟨fun e => by simp at e, fun o' h1 h2 => absurd h2 (h o' h1)⟩
theorem sl_any (bk off n cap i : Nat) (hi : i ≤ n) (hcap : n ≤ cap) : ∃ off', (∀ w, (Instr.slice 67 (.slice (some ⟨bk, off, none⟩) n cap) (some (.int .i64 (i : Int))) none none).run Tryz.prog w = .ok (.slice (some ⟨bk, off', none⟩) (n - i) (cap - i)) w) ∧ (i < cap → off' = off + i) := by
  by_cases e : cap = i
  · refine ⟨off, fun w => ?_, fun h => by omega⟩
    have hn : n = i := by omega
    have hb := run_sliceBound (P := Tryz.prog) (w := w) .i64 (i : Int) i .sliceB (by omega) (by omega)
    simp [Instr.slice, run_underlying Tryz.underlying67, Instr.sliceBounds, Result.andThen, e, hn, hb]
  · refine ⟨off + i, fun w => ?_, fun _ => rfl⟩
    have hb := run_sliceBound (P := Tryz.prog) (w := w) .i64 (i : Int) n .sliceB (by omega) (by omega)
    simp [Instr.slice, run_underlying Tryz.underlying67, Instr.sliceBounds, Result.andThen, e, hb, Addr.add]
    try (unfold Addr.add; split <;> simp_all)
/-- what lies in memory while an operation is read -/
structure PS (W : World) (R P F : Nat) (row fr : Array Value) (pv : Value) (ns : List Nat) (sb so : Nat) (fs : List (List UInt8)) (wr : World) : Prop where
  rr : wr.heap[R]? = some (.cells (opR 0 0 0 0 0 false 0 0 (.slice none 0 0) 0 0) 28 (0, 0))
  bx : wr.heap[P]? = some (.cells row 28 (0, 0))
  fl : wr.heap[F]? = some (.cells fr 113 (0, 0))
  num : (ns = [] ∧ pv = .slice none 0 0) ∨ ∃ g, pv = .slice (some ⟨g, 0, none⟩) ns.length ns.length ∧ g ≠ P ∧ wr.heap[g]? = some (.cells (ns.map fun n => Value.pointer (some ⟨P, n, none⟩)).toArray 115 (0, 0))
  st : ∀ (i : Nat) (f : List UInt8), fs[i]? = some f → wr.cell? ⟨sb, so + i, none⟩ = some (.string (mkS f))
  sl : sb < wr.heap.size
  bel : Below W.heap.size W wr
  lo : W.heap.size ≤ P
  lr : W.heap.size ≤ R
  nr : R ≠ P
  nf : F ≠ P
  ns : sb ≠ P
theorem PS.chg {W : World} {R P F : Nat} {row row' fr : Array Value} {pv : Value} {ns : List Nat} {sb so : Nat} {fs : List (List UInt8)} {wr X : World} (h : PS W R P F row fr pv ns sb so fs wr) (hc : Chg (fun b => b = P) wr X) (hx : X.heap[P]? = some (.cells row' 28 (0, 0))) : PS W R P F row' fr pv ns sb so fs X := by
  have hk : ∀ (b : Nat) (o : Obj), b ≠ P → wr.heap[b]? = some o → X.heap[b]? = some o := fun b o hne hb => (hc.block b (Array.getElem?_eq_some_iff.1 hb).1 hne).trans hb
  refine ⟨hk R _ h.nr h.rr, hx, hk F _ h.nf h.fl, ?_, fun i f hf => ?_, Nat.lt_of_lt_of_le h.sl hc.size, ⟨hc.os.trans h.bel.os, hc.tape.trans h.bel.tape, hc.output.trans h.bel.output, Nat.le_trans h.bel.size hc.size, fun k hk' => ?_⟩, h.lo, h.lr, h.nr, h.nf, h.ns⟩
  · rcases h.num with x | ⟨g, h1, h2, h3⟩
    · exact .inl x
    · exact .inr ⟨g, h1, h2, hk g _ h2 h3⟩
  · rw [World.cell?_of_block (w := wr) (hc.block sb h.sl h.ns)]
    exact h.st i f hf
  · have := h.lo
    have := h.bel.size
    rw [hc.block k (by omega) (by omega)]
    exact h.bel.block k hk'
theorem PS.on {W : World} {R P F : Nat} {row fr : Array Value} {pv : Value} {ns : List Nat} {sb so : Nat} {fs : List (List UInt8)} {wr X : World} (h : PS W R P F row fr pv ns sb so fs wr) (hb : Below wr.heap.size wr X) : PS W R P F row fr pv ns sb so fs X := h.chg (chg_of_below hb) (heap_below h.bx hb)
theorem PS.cut {W : World} {R P F : Nat} {row fr : Array Value} {pv : Value} {ns : List Nat} {sb so so' : Nat} {f : List UInt8} {fs : List (List UInt8)} {wr : World} (h : PS W R P F row fr pv ns sb so (f :: fs) wr) (e : 0 < fs.length → so' = so + 1) : PS W R P F row fr pv ns sb so' fs wr :=
  ⟨h.rr, h.bx, h.fl, h.num, fun i x hx => by
    have hl : 0 < fs.length := by
      have := (List.getElem?_eq_some_iff.1 hx).1
      omega
    have := h.st (i + 1) x (by simpa using hx)
    rw [e hl, Nat.add_assoc, Nat.add_comm 1 i]
    exact this, h.sl, h.bel, h.lo, h.lr, h.nr, h.nf, h.ns⟩
theorem PS.srd {W : World} {R P F : Nat} {row fr : Array Value} {pv : Value} {ns : List Nat} {sb so : Nat} {fs : List (List UInt8)} {wr : World} (h : PS W R P F row fr pv ns sb so fs wr) : SRd wr (some ⟨sb, so, none⟩) fs := .inr ⟨sb, so, rfl, h.sl, h.st⟩
/-- the end: the row of the answer is written -/
theorem PS.fin {W : World} {R P F : Nat} {row fr : Array Value} {pv : Value} {ns : List Nat} {sb so : Nat} {fs : List (List UInt8)} {wr : World} (h : PS W R P F row fr pv ns sb so fs wr) (cs : Array Value) : (wr.setRow R cs).heap[R]? = some (.cells cs 28 (0, 0)) ∧ Below W.heap.size W (wr.setRow R cs) := ⟨setRow_heap _ _ _ _ _ _ h.rr, below_setRow h.bel h.lr _⟩
end Go.Proofs.YtmmaniolaljjlaaGreatDoor
/- What a reading of an operation finds: what is pure. -/
namespace Go.Proofs.YtmmaniolaljjlaaGreatDoor
open Go.RowKit Go.Shelf
set_option linter.unusedVariables false

def HPart (k hnd : Nat) (set : Bool) (rt ri : Int) (pre : List (List UInt8)) : Prop := (hndK k = true ∧ ∃ f1, pre = [f1] ∧ HdQ f1 true hnd set rt ri) ∨ (hndK k = false ∧ pre = [] ∧ hnd = 0 ∧ set = false ∧ rt = 0 ∧ ri = 0)
theorem core {t : List UInt8} {k hnd : Nat} {set : Bool} {rt ri : Int} {pre r1 : List (List UInt8)} (hk : hasK k = true) (hp : HPart k hnd set rt ri pre) (hs : Lib.split t [32] = opW k :: (pre ++ r1)) {o : Opx} (ho : rightO o) (ht : t = textO o) :
    o.k = k ∧ o.hnd = hnd ∧ o.set = set ∧ o.rt = rt ∧ o.ri = ri ∧ r1 = (nuO o).map Lib.decDigits := by
  have R := right_parts ho
  have e := (text_iff t o).1 ht
  rw [hs, R.parts] at e
  simp only [List.cons.injEq] at e
  have hkk : o.k = k := (opW_inj k o.k hk R.has e.1).symm
  have e2 := e.2
  rw [hkk] at e2
  rcases hp with ⟨h1, f1, rfl, hd⟩ | ⟨h1, rfl, rfl, rfl, rfl, rfl⟩
  · rw [h1] at e2
    simp at e2
    obtain ⟨_, q1, q2, q3, q4⟩ := hd.2 o.hnd o.set o.rt o.ri ho.1.hnd ho.1.rt ho.1.ri (R.hd (by rw [hkk]; exact h1)) e2.1
    exact ⟨hkk, q1.symm, q2.symm, q3.symm, q4.symm, e2.2⟩
  · rw [h1] at e2
    obtain ⟨q1, q2, q3, q4⟩ := R.nohd (by rw [hkk]; exact h1)
    exact ⟨hkk, q1, q2, q3, q4, by simpa using e2⟩
theorem no_kind {t f0 : List UInt8} {r0 : List (List UInt8)} (h : ∀ k, hasK k = true → f0 ≠ opW k) (hs : Lib.split t [32] = f0 :: r0) : ∀ o, rightO o → t ≠ textO o := by
  intro o ho ht
  have R := right_parts ho
  have e := (text_iff t o).1 ht
  rw [hs, R.parts] at e
  simp only [List.cons.injEq] at e
  exact h o.k R.has e.1
theorem no_hd {t : List UInt8} {k : Nat} (hk : hasK k = true) (hh : hndK k = true) (hs : Lib.split t [32] = [opW k]) : ∀ o, rightO o → t ≠ textO o := by
  intro o ho ht
  have R := right_parts ho
  have e := (text_iff t o).1 ht
  rw [hs, R.parts] at e
  simp only [List.cons.injEq] at e
  have hkk : o.k = k := (opW_inj k o.k hk R.has e.1).symm
  have e2 := e.2
  rw [hkk, hh] at e2
  simp at e2
theorem no_hd2 {t f1 : List UInt8} {k hnd : Nat} {set : Bool} {rt ri : Int} {r1 : List (List UInt8)} (hk : hasK k = true) (hh : hndK k = true) (hs : Lib.split t [32] = opW k :: f1 :: r1) (hd : HdQ f1 false hnd set rt ri) : ∀ o, rightO o → t ≠ textO o := by
  intro o ho ht
  have R := right_parts ho
  have e := (text_iff t o).1 ht
  rw [hs, R.parts] at e
  simp only [List.cons.injEq] at e
  have hkk : o.k = k := (opW_inj k o.k hk R.has e.1).symm
  have e2 := e.2
  rw [hkk, hh] at e2
  simp at e2
  have := (hd.2 o.hnd o.set o.rt o.ri ho.1.hnd ho.1.rt ho.1.ri (R.hd (by rw [hkk]; exact hh)) e2.1).1
  simp at this
theorem no_nums {t : List UInt8} {k hnd : Nat} {set : Bool} {rt ri : Int} {pre r1 : List (List UInt8)} (hk : hasK k = true) (hp : HPart k hnd set rt ri pre) (hs : Lib.split t [32] = opW k :: (pre ++ r1)) (hm : r1.mapM natP = none) : ∀ o, rightO o → t ≠ textO o := by
  intro o ho ht
  obtain ⟨_, _, _, _, _, e⟩ := core hk hp hs ho ht
  rw [e, natsM_dec _ (nu_u ho.1)] at hm
  simp at hm
theorem nu_of {t : List UInt8} {k hnd : Nat} {set : Bool} {rt ri : Int} {pre r1 : List (List UInt8)} {us : List Nat} (hk : hasK k = true) (hp : HPart k hnd set rt ri pre) (hs : Lib.split t [32] = opW k :: (pre ++ r1)) (hm : r1.mapM natP = some us) {o : Opx} (ho : rightO o) (ht : t = textO o) : us = nuO o ∧ o.k = k := by
  obtain ⟨hkk, _, _, _, _, e⟩ := core hk hp hs ho ht
  rw [e, natsM_dec _ (nu_u ho.1)] at hm
  simp only [Option.some.injEq] at hm
  exact ⟨hm.symm, hkk⟩
theorem numK_7 {k : Nat} (h : kysK k = true) : numK k = [] := by
  unfold kysK at h
  simp at h
  subst h
  rfl
theorem no_keys {t : List UInt8} {k hnd : Nat} {set : Bool} {rt ri : Int} {pre r1 : List (List UInt8)} {us : List Nat} (hk : hasK k = true) (hp : HPart k hnd set rt ri pre) (hs : Lib.split t [32] = opW k :: (pre ++ r1)) (hm : r1.mapM natP = some us) (h7 : kysK k = true) (hl : ¬ us.length ≤ 1024) : ∀ o, rightO o → t ≠ textO o := by
  intro o ho ht
  obtain ⟨e, hkk⟩ := nu_of hk hp hs hm ho ht
  have R := right_parts ho
  have := R.kys (by rw [hkk]; exact h7)
  rw [e] at hl
  unfold nuO at hl
  rw [hkk, numK_7 h7] at hl
  simp at hl
  omega
theorem no_len {t : List UInt8} {k hnd : Nat} {set : Bool} {rt ri : Int} {pre r1 : List (List UInt8)} {us : List Nat} (hk : hasK k = true) (hp : HPart k hnd set rt ri pre) (hs : Lib.split t [32] = opW k :: (pre ++ r1)) (hm : r1.mapM natP = some us) (h7 : kysK k = false) (hl : us.length ≠ (numK k).length) : ∀ o, rightO o → t ≠ textO o := by
  intro o ho ht
  obtain ⟨e, hkk⟩ := nu_of hk hp hs hm ho ht
  have R := right_parts ho
  have := R.nokys (by rw [hkk]; exact h7)
  apply hl
  rw [e]
  unfold nuO
  rw [this, hkk]
  simp
theorem hp_facts {k hnd : Nat} {set : Bool} {rt ri : Int} {pre : List (List UInt8)} (hp : HPart k hnd set rt ri pre) : isU hnd ∧ isI rt ∧ isI ri ∧ (hndK k = true → rhB hnd set rt ri = true) ∧ (hndK k = false → hnd = 0 ∧ set = false ∧ rt = 0 ∧ ri = 0) ∧ pre = (if hndK k = true then [hText hnd set rt ri] else []) := by
  rcases hp with ⟨h1, f1, rfl, hd⟩ | ⟨h1, rfl, rfl, rfl, rfl, rfl⟩
  · obtain ⟨a, b, c, d, e⟩ := hd.1 rfl
    exact ⟨a, b, c, fun _ => d, fun h => by rw [h1] at h; simp at h, by rw [h1, e]; simp⟩
  · exact ⟨by unfold isU; omega, ⟨by omega, by omega⟩, ⟨by omega, by omega⟩, fun h => by rw [h1] at h; simp at h, fun _ => ⟨rfl, rfl, rfl, rfl⟩, by rw [h1]; simp⟩
theorem has_lt {k : Nat} (h : hasK k = true) : k < 256 := by unfold hasK at h; simp at h; omega
theorem yes_keys {t : List UInt8} {k hnd : Nat} {set : Bool} {rt ri : Int} {pre r1 : List (List UInt8)} {us : List Nat} (hk : hasK k = true) (hp : HPart k hnd set rt ri pre) (hs : Lib.split t [32] = opW k :: (pre ++ r1)) (hm : r1.mapM natP = some us) (h7 : kysK k = true) (hl : us.length ≤ 1024) : PQ t true ⟨k, 0, 0, 0, hnd, set, rt, ri, us, 0, 0⟩ := by
  obtain ⟨a1, a2, a3, a4, a5, a6⟩ := hp_facts hp
  obtain ⟨hdec, huu⟩ := natsM_some hm
  have u0 : isU 0 := by unfold isU; omega
  have hr : rightO ⟨k, 0, 0, 0, hnd, set, rt, ri, us, 0, 0⟩ := mk_right ⟨has_lt hk, u0, u0, u0, a1, a2, a3, huu, u0, u0⟩ hk a4 a5 (fun _ => hl) (fun h => by simp only at h; rw [h7] at h; simp at h) (fun _ => rfl) (fun _ => rfl) (fun _ => rfl) (fun _ => rfl) (fun _ => rfl)
  refine ⟨fun _ => ⟨hr, ?_⟩, fun o ho ht => ⟨rfl, ?_⟩⟩
  · rw [text_iff, hs, (right_parts hr).parts]
    unfold nuO
    simp only
    rw [numK_7 h7, a6, hdec]
    simp
  · obtain ⟨c1, c2, c3, c4, c5, c6⟩ := core hk hp hs ho ht
    obtain ⟨e, _⟩ := nu_of hk hp hs hm ho ht
    have R := right_parts ho
    obtain ⟨ok', key', val', old', hnd', set', rt', ri', keys', lo', hi'⟩ := o
    simp only at c1 c2 c3 c4 c5
    subst c1 c2 c3 c4 c5
    have n7 := numK_7 h7
    have q1 := R.z1
    have q2 := R.z2
    have q3 := R.z3
    have q9 := R.z9
    have q10 := R.z10
    simp only [n7] at q1 q2 q3 q9 q10
    unfold nuO at e
    simp only [n7] at e
    simp at e q1 q2 q3 q9 q10
    subst e q1 q2 q3 q9 q10
    rfl
theorem yes_nums {t : List UInt8} {k hnd : Nat} {set : Bool} {rt ri : Int} {pre r1 : List (List UInt8)} {us : List Nat} (hk : hasK k = true) (hp : HPart k hnd set rt ri pre) (hs : Lib.split t [32] = opW k :: (pre ++ r1)) (hm : r1.mapM natP = some us) (h7 : kysK k = false) (hl : us.length = (numK k).length) : PQ t true ⟨k, fk k us 1, fk k us 2, fk k us 3, hnd, set, rt, ri, [], fk k us 9, fk k us 10⟩ := by
  obtain ⟨a1, a2, a3, a4, a5, a6⟩ := hp_facts hp
  obtain ⟨hdec, huu⟩ := natsM_some hm
  have hr : rightO ⟨k, fk k us 1, fk k us 2, fk k us 3, hnd, set, rt, ri, [], fk k us 9, fk k us 10⟩ := mk_right ⟨has_lt hk, fk_u huu 1, fk_u huu 2, fk_u huu 3, a1, a2, a3, fun u hu => by simp at hu, fk_u huu 9, fk_u huu 10⟩ hk a4 a5 (fun h => by simp only at h; rw [h7] at h; simp at h) (fun _ => rfl) (fun h => fk_none us h) (fun h => fk_none us h) (fun h => fk_none us h) (fun h => fk_none us h) (fun h => fk_none us h)
  refine ⟨fun _ => ⟨hr, ?_⟩, fun o ho ht => ⟨rfl, ?_⟩⟩
  · rw [text_iff, hs, (right_parts hr).parts]
    unfold nuO
    simp only
    rw [fk_nums k us hl, a6, hdec]
    simp
  · obtain ⟨c1, c2, c3, c4, c5, c6⟩ := core hk hp hs ho ht
    obtain ⟨e, _⟩ := nu_of hk hp hs hm ho ht
    have R := right_parts ho
    obtain ⟨ok', key', val', old', hnd', set', rt', ri', keys', lo', hi'⟩ := o
    simp only at c1 c2 c3 c4 c5
    subst c1 c2 c3 c4 c5
    have hke := R.nokys h7
    simp only at hke
    subst hke
    unfold nuO at e
    simp only [List.append_nil] at e
    subst e
    obtain ⟨q1, q2, q3, q9, q10⟩ := fk_of ok' key' val' old' lo' hi' R.z1 R.z2 R.z3 R.z9 R.z10
    rw [q1, q2, q3, q9, q10]
/-- a row of numbers that was built, above B -/
def KU (B : Nat) (lp : Option Addr) (us : List Nat) (X : World) : Prop := us = [] ∨ ∃ g, lp = some ⟨g, 0, none⟩ ∧ B ≤ g ∧ g < X.heap.size ∧ ∀ (i x : Nat), us[i]? = some x → X.cell? ⟨g, i, none⟩ = some (.int .u64 (x : Int))
theorem stu_form {W X : World} {us : List Nat} {v : Value} (h : StU W us v X) : ∃ lp lc, v = .slice lp us.length lc ∧ KU W.heap.size lp us X := by
  have hl := fun k hk => row_lt h.row k hk
  have hc := fun g (hg : v.ownBlock = some g) => h.row.cells (g := g) hg
  rcases h.row.2 with ⟨hv, h0⟩ | ⟨g, cap, cur, hv, _⟩
  · exact ⟨none, 0, by rw [hv, h0], .inl (List.eq_nil_of_length_eq_zero h0)⟩
  · refine ⟨_, cap, hv, .inr ⟨g, rfl, h.new g (by rw [hv]; rfl), hl g (by rw [hv]; rfl), fun i x hx => ?_⟩⟩
    have := hc g (by rw [hv]; rfl) i (.int .u64 (x : Int)) (by unfold uRow; rw [List.getElem?_map, hx]; rfl)
    rw [Addr.add_mid] at this
    simpa using this
theorem KU.chg {B P : Nat} {lp : Option Addr} {us : List Nat} {X Y : World} (h : KU B lp us X) (hP : P < B) (hc : Chg (fun b => b = P) X Y) : KU B lp us Y := by
  rcases h with h | ⟨g, h1, h2, h3, h4⟩
  · exact .inl h
  · refine .inr ⟨g, h1, h2, Nat.lt_of_lt_of_le h3 hc.size, fun i x hx => ?_⟩
    rw [World.cell?_of_block (w := X) (hc.block g h3 (by omega))]
    exact h4 i x hx
theorem KU.row {B R : Nat} {lp : Option Addr} {us : List Nat} {X : World} (h : KU B lp us X) (hR : R < B) (cs : Array Value) : KU B lp us (X.setRow R cs) := by
  rcases h with h | ⟨g, h1, h2, h3, h4⟩
  · exact .inl h
  · refine .inr ⟨g, h1, h2, by simpa using h3, fun i x hx => ?_⟩
    rw [World.cell?_of_block (w := X) (setRow_other X R g cs (by omega))]
    exact h4 i x hx
theorem KU.krd {B : Nat} {lp : Option Addr} {us : List Nat} {X : World} (h : KU B lp us X) : KRd X lp us := by
  rcases h with h | ⟨g, h1, h2, h3, h4⟩
  · exact .inl h
  · exact .inr ⟨g, 0, h1, h3, fun i x hx => by simpa using h4 i x hx⟩
theorem KU.mono {B C : Nat} {lp : Option Addr} {us : List Nat} {X : World} (h : KU B lp us X) (hC : C ≤ B) : KU C lp us X := by
  rcases h with h | ⟨g, h1, h2, h3, h4⟩
  · exact .inl h
  · exact .inr ⟨g, h1, Nat.le_trans hC h2, h3, h4⟩
def PaQ (W : World) (t : List UInt8) (e : Ending) (W' : World) : Prop := ∃ ok o kp kc, e = .returned (.tuple #[.agg (opV o kp kc), .bool ok]) ∧ PQ t ok o ∧ KU W.heap.size kp o.keys W' ∧ (ok = false → o = zeroO) ∧ Below W.heap.size W W'
theorem KU.lst {B P : Nat} {lp : Option Addr} {us : List Nat} {X : World} (h : KU B lp us X) (hP : P < B) : us = [] ∨ ∃ g, lp = some ⟨g, 0, none⟩ ∧ g ≠ P ∧ ∀ (i x : Nat), us[i]? = some x → X.cell? ⟨g, i, none⟩ = some (.int .u64 (x : Int)) := by
  rcases h with h | ⟨g, h1, h2, h3, h4⟩
  · exact .inl h
  · exact .inr ⟨g, h1, by omega, h4⟩
end Go.Proofs.YtmmaniolaljjlaaGreatDoor
