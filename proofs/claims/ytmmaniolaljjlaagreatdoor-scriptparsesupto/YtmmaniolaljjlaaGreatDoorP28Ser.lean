/- The program's Parse of a script's text. (mkSfn.py) -/
import Derived.Test.YtmmaniolaljjlaaGreatDoorP25Sfm
import Derived.Test.YtmmaniolaljjlaaGreatDoorP27Sfh
import Derived.Test.YtmmaniolaljjlaaGreatDoorP8Store
import Derived.Deep.RegionHeld
import Derived.BigQuiet
namespace Go.Proofs.YtmmaniolaljjlaaGreatDoor
open Go.RowKit Go.Shelf Go.Maps
set_option linter.unusedVariables false

theorem RdAll.none_nil {s : Option Rdg} {ls : List (List UInt8)} (h : RdAll s ls none) : ls = [] := by
  cases h with
  | nil => rfl
  | cons s line x ls z hg hr =>
    exfalso
    have key : ∀ (u : Option Rdg) (l : List (List UInt8)) (z : Option Rdg), RdAll u l z → u ≠ none → z ≠ none := by
      intro u l z hu
      induction hu with
      | nil s => exact fun h => h
      | cons s line x ls z hg hr ih => exact fun _ => ih (by simp)
    exact key _ _ _ hr (by simp) rfl
theorem msS_rd {t : List UInt8} {ls : List (List UInt8)} {r : List UInt8} {i : Nat} {x : Rdg} (hl : LnT t ls r) (h : RdAll none (ls.take i) (some x)) (ht : t.length ≤ 5000000) : SzX x ∧ SOk x.ts x.ps := by
  have h1 := rd_msr h
  have h2 := ln_take hl i
  simp only [msS] at h1
  have hk := sok_of (rd_good0 h) (by omega)
  exact ⟨⟨hk.tl, hk.pl, hk.ll⟩, hk⟩
theorem ln_rest {t : List UInt8} {ls : List (List UInt8)} {r : List UInt8} (h : LnT t ls r) (i : Nat) : joinL (ls.drop i) ++ r = t.drop (joinL (ls.take i)).length := by
  have e := joinL_app (ls.take i) (ls.drop i)
  rw [List.take_append_drop] at e
  rw [h.1, e]
  simp
theorem ln_ex (t : List UInt8) : ∃ ls r, LnT t ls r := by
  induction t with
  | nil => exact ⟨[], [], rfl, noB_nil _, fun x hx => by simp at hx⟩
  | cons c t ih =>
    obtain ⟨ls, r, e, h1, h2⟩ := ih
    by_cases hc : c = 10
    · exact ⟨[] :: ls, r, by rw [joinL_cons, e, hc]; rfl, h1, fun x hx => by
        rcases List.mem_cons.1 hx with rfl | hx
        · exact noB_nil _
        · exact h2 x hx⟩
    · cases ls with
      | nil => exact ⟨[], c :: r, by simp [joinL] at e ⊢; exact e, fun x hx => by
          rcases List.mem_cons.1 hx with rfl | hx
          · exact hc
          · exact h1 x hx, fun x hx => by simp at hx⟩
      | cons l ls => exact ⟨(c :: l) :: ls, r, by rw [joinL_cons] at e ⊢; rw [e]; simp, h1, fun x hx => by
          rcases List.mem_cons.1 hx with rfl | hx
          · intro y hy
            rcases List.mem_cons.1 hy with rfl | hy
            · exact hc
            · exact h2 l (by simp) y hy
          · exact h2 x (by simp [hx])⟩
theorem joinL_len (ls : List (List UInt8)) : ls.length ≤ (joinL ls).length := by
  induction ls with
  | nil => simp [joinL]
  | cons a ls ih => rw [joinL_cons]; simp; omega
/-- a text that is not too great -/
structure BT (t : List UInt8) : Prop where
  len : t.length ≤ 100000000000
  ln : ∀ (ls : List (List UInt8)) (r : List UInt8), LnT t ls r → (∀ f ∈ ls, f.length ≤ 5000000) ∧ ∀ (i : Nat) (x : Rdg), RdAll none (ls.take i) (some x) → SzX x ∧ SOk x.ts x.ps
theorem bt_small {t : List UInt8} (ht : t.length ≤ 5000000) : BT t := ⟨by omega, fun ls r hln => ⟨fun f hf => by
    obtain ⟨a, b, e⟩ := List.append_of_mem hf
    have h1 := hln.1
    rw [e, joinL_app, joinL_cons] at h1
    have h2 := congrArg List.length h1
    simp at h2
    omega, fun i x h => msS_rd hln h ht⟩⟩
theorem cutI_endL (l r : List UInt8) (hl : l.length + r.length ≤ 100000000000) (hn : noB 10 l) (w : World) :
    Calls Tryz.prog 91 #[.string (mkS (l ++ 10 :: r)), .string ⟨#[10]⟩] w fun e w' => e = .returned (.tuple #[.string (mkS l), .string (mkS r), .bool true]) ∧ Below w.heap.size w w' := by
  have hix := Any.stringslite_Index_one Tryz.lays219 (mkS (l ++ 10 :: r)) 10 w
  rw [show Lib.indexByte (mkS (l ++ 10 :: r)).data.toList 10 = (l.length : Int) from ix_at hn] at hix
  have hsz : (mkS (l ++ 10 :: r)).size = l.length + 1 + r.length := by rw [mkS_size]; simp; omega
  have e1 : mkS l = (mkS (l ++ 10 :: r)).extract 0 l.length := by rw [mkS_extract]; simp
  have e2 : mkS r = (mkS (l ++ 10 :: r)).extract (l.length + 1) (mkS (l ++ 10 :: r)).size := by
    rw [mkS_extract, hsz]
    congr 1
    rw [show l ++ 10 :: r = (l ++ [10]) ++ r by simp, List.drop_left' (by simp), List.take_of_length_le (by omega)]
  rw [e1, e2]
  obtain ⟨s, hs⟩ : ∃ s, s = mkS (l ++ 10 :: r) := ⟨_, rfl⟩
  rw [← hs] at hix hsz ⊢
  obtain ⟨n, hn⟩ : ∃ n, n = l.length := ⟨_, rfl⟩
  rw [← hn] at hix ⊢
  have k1 : (0 : Int) ≤ (n : Int) := by omega
  have k2 : (n : Int) ≤ (s.size : Int) := by omega
  have k3 : (0 : Int) ≤ (n : Int) + 1 := by omega
  have k4 : (n : Int) + 1 ≤ (s.size : Int) := by omega
  have k5 : IntKind.i64.wrap ((n : Int) + 1) = (n : Int) + 1 := by rw [IntKind.wrap_i64]; omega
  have k6 : wrap64 ((n : Int) + 1) = (n : Int) + 1 := by unfold wrap64; omega
  clear e1 e2 hs hn hsz
  go_enter Tryz.func91, Tryz.ntmps91
  go_wp2_with (go_at_call 112; refine hix.mono ?_; rintro e w' ⟨rfl, rfl⟩)
  have mixed := Tryz.lays219.mixed
  go_region_o
  go_wp2
  go_ret3
  exact ⟨rfl, below_drewN (Below.refl _ _) 1⟩
theorem cut_endL (l r : List UInt8) (hl : l.length + r.length ≤ 100000000000) (hn : noB 10 l) (w : World) :
    Calls Tryz.prog 53 #[.string (mkS (l ++ 10 :: r)), .string ⟨#[10]⟩] w fun e w' => e = .returned (.tuple #[.string (mkS l), .string (mkS r), .bool true]) ∧ Below w.heap.size w w' := by
  have h := cutI_endL l r hl hn w
  obtain ⟨s, hs⟩ : ∃ s, s = mkS (l ++ 10 :: r) := ⟨_, rfl⟩
  rw [← hs] at h ⊢
  clear hs
  go_enter Tryz.func53, Tryz.ntmps53
  go_wp2_with fail
  refine h.mono ?_
  rintro e w1 ⟨rfl, hb⟩
  go_wp2
  go_ret3
  exact ⟨rfl, hb⟩
set_option maxRecDepth 100000 in
set_option maxHeartbeats 8000000 in
theorem sParse_any (t : List UInt8) (hBT : BT t) (W : World) (T : Tb W) (hW : Wd W) : Calls Tryz.prog 21 #[.string (mkS t)] W (PsQ W t) := by
  obtain ⟨ls, rr, hln⟩ := ln_ex t
  obtain ⟨w1, hw1⟩ : ∃ w1, w1 = W.alloc (.cells #[.int .i64 0, .int .i64 0, .int .u64 0, .int .i64 0, .slice none 0 0, .slice none 0 0] 46) := ⟨_, rfl⟩
  obtain ⟨R, hR⟩ : ∃ R, R = W.heap.size := ⟨_, rfl⟩
  have B1 : Below W.heap.size W w1 := by rw [hw1]; exact below_alloc _ _
  have Y1 : w1.heap[R]? = some (.cells #[.int .i64 0, .int .i64 0, .int .u64 0, .int .i64 0, .slice none 0 0, .slice none 0 0] 46 (0, 0)) := by rw [hw1, hR]; exact heap_alloc_new _ _
  have HNR := keepH (reading_new w1)
  obtain ⟨N, hN⟩ : ∃ N, N = ls.length := ⟨_, rfl⟩
  have ht := hBT.len
  have hN5 : N ≤ 100000000000 := by have := joinL_len ls; have := ln_take hln ls.length; rw [List.take_length] at this; omega
  obtain ⟨hfl, hszs⟩ := hBT.ln ls rr hln
  have HSZ := keepH hszs
  have HT := keepH (T.on B1)
  have HWD := keepH (hW.on B1)
  have HTL := keepH ht
  have HLN := keepH hln
  have HN := keepH hN
  have HFL := keepH hfl
  have HW1 := keepH hw1
  have HR := keepH hR
  have HB1 := keepH B1
  have HY1 := keepH Y1
  have HDR := keepH (ln_rest hln)
  have hst0 : t = joinL (ls.drop 0) ++ rr := by rw [List.drop_zero]; exact hln.1
  have HT0 := keepH hst0
  obtain ⟨s, hs⟩ : ∃ s, s = mkS t := ⟨_, rfl⟩
  rw [← hs]
  have HS := keepH hs
  clear hs T hW ht hw1 hR B1 Y1 hln hN hfl hszs hst0 hBT
  go_enter Tryz.func21, Tryz.ntmps21
  go_upto_region 1 with fail
  rw [← HW1.out, ← HR.out]
  go_wp2_with fail
  refine HNR.out.mono ?_
  rintro e w2 ⟨b, vb, m, rfl, hsr⟩
  have HSR0 := keepH hsr
  clear hsr HNR
  go_wp2_with fail
  go_loopw [6, 7, 8, 9, 10] (fun s6 s7 s8 s9 s10 wr => ∃ (i : Nat) (sr : ByteArray), i ≤ N ∧ s6 = .int .i64 (i : Int) ∧ s7 = .string sr ∧ Hid (sr = mkS (joinL (ls.drop i) ++ rr) ∧ ∃ st, RdAll none (ls.take i) st ∧ SR w1 b vb m st wr)) (fun s6 _ _ _ _ _ => N - (intOf s6).toNat)
  case atStart => exact ⟨0, s, by omega, rfl, rfl, keepH ⟨by rw [HS.out, ← HT0.out], none, .nil none, HSR0.out⟩⟩
  case round =>
    clear HSR0
    obtain ⟨i, sr, hi, rfl, rfl, HK⟩ := hrel
    obtain ⟨hsr, st, hrd, hst⟩ := HK.out
    have HSR := keepH hsr
    have HRD := keepH hrd
    have HST := keepH hst
    have BW : Below w1.heap.size w1 wr := hst.bel
    have HYR : Hid (wr.heap[R]? = some (.cells #[.int .i64 0, .int .i64 0, .int .u64 0, .int .i64 0, .slice none 0 0, .slice none 0 0] 46 (0, 0))) := keepH (heap_below HY1.out BW)
    have HBW := keepH (below_chain HB1.out BW)
    have HTW := keepH (HT.out.on BW)
    have HDW := keepH (HWD.out.on BW)
    have HLR : Hid (W.heap.size ≤ R) := keepH (by rw [HR.out]; exact Nat.le_refl _)
    have hqe : (sr.toList == ([] : List UInt8)) = decide (joinL (ls.drop i) ++ rr = []) := by rw [hsr, mkS_toList]; by_cases h : joinL (ls.drop i) ++ rr = [] <;> simp [h]
    clear hsr hrd hst BW HK
    by_cases hem : joinL (ls.drop i) ++ rr = []
    · have q0 : (sr.toList == ([] : List UInt8)) = true := by rw [hqe]; simp [hem]
      have q1 : (sr.toList != ([] : List UInt8)) = false := by rw [bne, q0]; rfl
      have hiN : i = N := by
        have h1 := congrArg List.length hem
        have h2 := joinL_len (ls.drop i)
        rw [List.length_append, List.length_nil] at h1
        rw [List.length_drop] at h2
        have := HN.out
        omega
      have hrn : rr = [] := (List.append_eq_nil_iff.1 hem).2
      subst hiN hrn
      clear hem hqe
      by_cases h0 : i = 0
      · have z1 : ((i : Int) == 0) = true := by rw [h0]; rfl
        have HPL : Hid (PaR t none (i + 1)) := keepH (by
          have hls : ls = [] := List.eq_nil_of_length_eq_zero (by rw [← HN.out]; exact h0)
          have := PaR.rest ls [] none HLN.out (.inr hls) (by rw [hls]; exact .nil none)
          rwa [← HN.out] at this)
        clear h0
        go_wp2_with (first | (refine wpList_store_row rfl 46 _ _ rfl R (#[.int .i64 0, .int .i64 0, .int .u64 0, .int .i64 0, .slice none 0 0, .slice none 0 0]) rfl rfl 46 (#[.int .i64 0, .int .i64 0, .int .u64 0, .int .i64 0, .slice none 0 0, .slice none 0 0]) HYR.out (by kernel_rfl) rfl (by simp [Value.oneCell']) ?_) | go_in)
        have hrow := setRow_heap _ R _ (#[.int .i64 0, .int .i64 0, .int .u64 0, .int .i64 0, .slice none 0 0, .slice none 0 0]) 46 (0, 0) HYR.out
        have e0 := cell_of hrow 0
        have e1 := cell_of hrow 1
        have e2 := cell_of hrow 2
        have e3 := cell_of hrow 3
        have e4 := cell_of hrow 4
        have e5 := cell_of hrow 5
        simp at e0 e1 e2 e3 e4 e5
        refine bodyPost_ret (v := .tuple #[.agg (#[.int .i64 0, .int .i64 0, .int .u64 0, .int .i64 0, .slice none 0 0, .slice none 0 0]), .int .i64 52, .int .i64 ((i + 1 : Nat) : Int)]) (by simp [results, Tryz.results21, go_sem, e0, e1, e2, e3, e4, e5]) rfl ?_
        exact ⟨none, i + 1, _, 52, rfl, HPL.out, rfl, rfl, below_setRow HBW.out HLR.out _⟩
      · have z1 : ((i : Int) == 0) = false := by simp; omega
        obtain ⟨x, hx⟩ : ∃ x, st = some x := by
          cases st with
          | some x => exact ⟨x, rfl⟩
          | none =>
            have := HRD.out.none_nil
            rw [HN.out, List.take_length] at this
            rw [this] at HN
            exact absurd HN.out h0
        subst hx
        have hrd : RdAll none ls (some x) := by have := HRD.out; rwa [HN.out, List.take_length] at this
        have hsk := (HSZ.out i _ HRD.out).2
        obtain ⟨ce, sl, stp, mu, tv, pv, ts, ps, hrs, -, hxx⟩ := HST.out
        have hxe := hxx x rfl
        subst hxe
        simp only at hsk
        obtain ⟨tp, tc, pp, pc, e1, e2, hTR, hIR, hpc⟩ := hrs.os.reads
        subst e1 e2
        have htl := tooLong_any ce sl stp mu tp tc pp pc ts ps hsk wr hTR
        obtain ⟨L, hL⟩ : ∃ L, L = decide (longT ts ps) := ⟨_, rfl⟩
        rw [← hL] at htl
        obtain ⟨tn, htn⟩ : ∃ v, v = ts.length := ⟨_, rfl⟩
        obtain ⟨pn, hpn⟩ : ∃ v, v = ps.length := ⟨_, rfl⟩
        rw [← htn, ← hpn] at htl hrs
        have HTLG := keepH htl
        have HRS := keepH hrs
        have HTRI := keepH (And.intro hTR (And.intro hIR hpc))
        have HRX : Hid (scR ce sl stp mu (.slice tp tn tc) (.slice pp pn pc) = scR ce sl stp mu (.slice tp ts.length tc) (.slice pp ps.length pc)) := keepH (by rw [htn, hpn])
        have HRDX := keepH hrd
        have HLL := keepH hL
        have y0 : wr.cell? ⟨b, 0, none⟩ = _ := cell_of HRS.out.bx 0
        have y1 : wr.cell? ⟨b, 1, none⟩ = _ := cell_of HRS.out.bx 1
        have y2 : wr.cell? ⟨b, 2, none⟩ = _ := cell_of HRS.out.bx 2
        have y3 : wr.cell? ⟨b, 3, none⟩ = _ := cell_of HRS.out.bx 3
        have y4 : wr.cell? ⟨b, 4, none⟩ = _ := cell_of HRS.out.bx 4
        have y5 : wr.cell? ⟨b, 5, none⟩ = _ := cell_of HRS.out.bx 5
        clear h0 hrd hsk hrs hxx hTR hIR hpc htl hL htn hpn
        go_wp2_with fail
        refine HTLG.out.mono ?_
        rintro e w4 ⟨rfl, B4⟩
        have HRS4 := keepH (HRS.out.on B4)
        have HY4 := keepH (heap_below HYR.out B4)
        have HB4 := keepH (below_chain HBW.out B4)
        have HC4 := keepH B4
        clear B4 y0 y1 y2 y3 y4 y5
        cases L
        · have HPL : Hid (PaR t (some ⟨ce, sl, stp, mu, ts, ps⟩) 0) := keepH (PaR.ok ls _ HLN.out HRDX.out (by have := HLL.out; simpa using this))
          have y0 : w4.cell? ⟨b, 0, none⟩ = _ := cell_of HRS4.out.bx 0
          have y1 : w4.cell? ⟨b, 1, none⟩ = _ := cell_of HRS4.out.bx 1
          have y2 : w4.cell? ⟨b, 2, none⟩ = _ := cell_of HRS4.out.bx 2
          have y3 : w4.cell? ⟨b, 3, none⟩ = _ := cell_of HRS4.out.bx 3
          have y4 : w4.cell? ⟨b, 4, none⟩ = _ := cell_of HRS4.out.bx 4
          have y5 : w4.cell? ⟨b, 5, none⟩ = _ := cell_of HRS4.out.bx 5
          go_wp2_with (first | (refine wpList_store_row rfl 46 _ _ rfl R (scR ce sl stp mu (.slice tp tn tc) (.slice pp pn pc)) rfl rfl 46 (#[.int .i64 0, .int .i64 0, .int .u64 0, .int .i64 0, .slice none 0 0, .slice none 0 0]) HY4.out (by kernel_rfl) rfl (by simp [Value.oneCell']) ?_) | go_in)
          have HRF : Hid (OS w1 (w4.setRow R (scR ce sl stp mu (.slice tp tn tc) (.slice pp pn pc))) (.slice tp tn tc) (.slice pp pn pc) ts ps) := keepH (HRS4.out.os.keep (KpM.at (P := R) ⟨rfl, rfl, rfl, by simp, fun b hb hn => setRow_other _ _ _ _ hn⟩ HY4.out nrow (i0 ⟨0, rfl⟩)))
          have hrow := setRow_heap _ R _ (scR ce sl stp mu (.slice tp tn tc) (.slice pp pn pc)) 46 (0, 0) HY4.out
          have e0 := cell_of hrow 0
          have e1 := cell_of hrow 1
          have e2 := cell_of hrow 2
          have e3 := cell_of hrow 3
          have e4 := cell_of hrow 4
          have e5 := cell_of hrow 5
          simp at e0 e1 e2 e3 e4 e5
          refine bodyPost_ret (v := .tuple #[.agg (scR ce sl stp mu (.slice tp tn tc) (.slice pp pn pc)), .int .i64 0, .int .i64 ((0 : Nat) : Int)]) (by simp [results, Tryz.results21, go_sem, e0, e1, e2, e3, e4, e5]) rfl ?_
          refine ⟨some ⟨ce, sl, stp, mu, ts, ps⟩, 0, _, 0, rfl, HPL.out, ⟨tp, tc, pp, pc, HRX.out, ?_, ?_, HTRI.out.2.2⟩, rfl, below_setRow HB4.out HLR.out _⟩
          · obtain ⟨tp', tc', pp', pc', e1, e2, h1, h2, h3⟩ := HRF.out.reads
            injection e1 with e1
            rw [← e1] at h1
            exact h1
          · obtain ⟨tp', tc', pp', pc', e1, e2, h1, h2, h3⟩ := HRF.out.reads
            injection e2 with e2
            rw [← e2] at h2
            exact h2
        · have HPL : Hid (PaR t none (i + 1)) := keepH (by rw [HN.out]; exact PaR.long ls _ HLN.out HRDX.out (by have := HLL.out; simpa using this))
          go_wp2_with (first | (refine wpList_store_row rfl 46 _ _ rfl R (#[.int .i64 0, .int .i64 0, .int .u64 0, .int .i64 0, .slice none 0 0, .slice none 0 0]) rfl rfl 46 (#[.int .i64 0, .int .i64 0, .int .u64 0, .int .i64 0, .slice none 0 0, .slice none 0 0]) HY4.out (by kernel_rfl) rfl (by simp [Value.oneCell']) ?_) | go_in)
          have hrow := setRow_heap _ R _ (#[.int .i64 0, .int .i64 0, .int .u64 0, .int .i64 0, .slice none 0 0, .slice none 0 0]) 46 (0, 0) HY4.out
          have e0 := cell_of hrow 0
          have e1 := cell_of hrow 1
          have e2 := cell_of hrow 2
          have e3 := cell_of hrow 3
          have e4 := cell_of hrow 4
          have e5 := cell_of hrow 5
          simp at e0 e1 e2 e3 e4 e5
          refine bodyPost_ret (v := .tuple #[.agg (#[.int .i64 0, .int .i64 0, .int .u64 0, .int .i64 0, .slice none 0 0, .slice none 0 0]), .int .i64 52, .int .i64 ((i + 1 : Nat) : Int)]) (by simp [results, Tryz.results21, go_sem, e0, e1, e2, e3, e4, e5]) rfl ?_
          exact ⟨none, i + 1, _, 52, rfl, HPL.out, rfl, rfl, below_setRow HB4.out HLR.out _⟩
    · have q0 : (sr.toList == ([] : List UInt8)) = false := by rw [hqe]; simp only [decide_eq_false_iff_not]; exact hem
      have q1 : (sr.toList != ([] : List UInt8)) = true := by rw [bne, q0]; rfl
      clear hqe
      by_cases hlt : i < N
      · obtain ⟨f, hf⟩ : ∃ f, ls[i]? = some f := ⟨ls[i]'(by have := HN.out; omega), List.getElem?_eq_getElem _⟩
        obtain ⟨rest, hrest⟩ : ∃ rest, rest = joinL (ls.drop (i + 1)) ++ rr := ⟨_, rfl⟩
        have hcut : joinL (ls.drop i) ++ rr = f ++ 10 :: rest := by
          rw [drop_at hf, joinL_cons, hrest]
          simp
        have hfl5 := HFL.out f (List.mem_of_getElem? hf)
        have hlen : f.length + rest.length ≤ 100000000000 := by
          have h1 := congrArg List.length hcut
          have h2 := HDR.out i
          rw [h2] at h1
          simp at h1
          have := HTL.out
          omega
        have hnb := HLN.out.2.2 f (List.mem_of_getElem? hf)
        have hct := cut_endL f rest hlen hnb wr
        rw [← hcut, ← HSR.out] at hct
        have hsz : SzR st := fun x hx => by
          subst hx
          exact (HSZ.out i _ HRD.out).1
        have HTK := keepH (fun w (hb : Below wr.heap.size wr w) => rd_takes w1 b vb m st f hfl5 hsz w (HTW.out.on hb) (HDW.out.on hb) (HST.out.on hb))
        obtain ⟨sf, hsf⟩ : ∃ s, s = mkS f := ⟨_, rfl⟩
        obtain ⟨sq, hsq⟩ : ∃ s, s = mkS rest := ⟨_, rfl⟩
        rw [← hsf, ← hsq] at hct
        rw [← hsf] at HTK
        have HSQ : Hid (sq = mkS (joinL (ls.drop (i + 1)) ++ rr)) := keepH (by rw [hsq, hrest])
        have HF := keepH hf
        have HCT := keepH hct
        clear hem hf hrest hcut hfl5 hlen hnb hct hsz hsf hsq
        go_wp2_with fail
        refine HCT.out.mono ?_
        rintro e w3 ⟨rfl, B3⟩
        have HTK3 := keepH (HTK.out w3 B3)
        have HY3 := keepH (heap_below HYR.out B3)
        clear B3 HTK
        go_wp2_with fail
        refine HTK3.out.mono ?_
        rintro e w4 ⟨ok, rfl, hb4, hyes, hno⟩
        have HY4 := keepH (heap_below HY1.out hb4)
        have HB4 := keepH (below_chain HB1.out hb4)
        clear hb4
        cases ok
        · have HPL : Hid (PaR t none (i + 1)) := keepH (par_line HLN.out HF.out HRD.out (hno rfl))
          clear hyes hno
          go_wp2_with (first | (refine wpList_store_row rfl 46 _ _ rfl R (#[.int .i64 0, .int .i64 0, .int .u64 0, .int .i64 0, .slice none 0 0, .slice none 0 0]) rfl rfl 46 (#[.int .i64 0, .int .i64 0, .int .u64 0, .int .i64 0, .slice none 0 0, .slice none 0 0]) HY4.out (by kernel_rfl) rfl (by simp [Value.oneCell']) ?_) | go_in)
          have hrow := setRow_heap _ R _ (#[.int .i64 0, .int .i64 0, .int .u64 0, .int .i64 0, .slice none 0 0, .slice none 0 0]) 46 (0, 0) HY4.out
          have e0 := cell_of hrow 0
          have e1 := cell_of hrow 1
          have e2 := cell_of hrow 2
          have e3 := cell_of hrow 3
          have e4 := cell_of hrow 4
          have e5 := cell_of hrow 5
          simp at e0 e1 e2 e3 e4 e5
          refine bodyPost_ret (v := .tuple #[.agg (#[.int .i64 0, .int .i64 0, .int .u64 0, .int .i64 0, .slice none 0 0, .slice none 0 0]), .int .i64 52, .int .i64 ((i + 1 : Nat) : Int)]) (by simp [results, Tryz.results21, go_sem, e0, e1, e2, e3, e4, e5]) rfl ?_
          exact ⟨none, i + 1, _, 52, rfl, HPL.out, rfl, rfl, below_setRow HB4.out HLR.out _⟩
        · obtain ⟨x, hg, hsr⟩ := hyes rfl
          have HNX := keepH (rd_next HF.out HRD.out hg)
          have HSX := keepH hsr
          clear hyes hno hg hsr
          go_wp2_with fail
          go_roundw
          case rel => exact ⟨i + 1, sq, by omega, by first | rfl | go_num, rfl, keepH ⟨HSQ.out, some x, HNX.out, HSX.out⟩⟩
          case measure => simp [intOf]; omega
      · obtain rfl : i = N := by omega
        have hdr : ls.drop i = [] := by rw [HN.out, List.drop_length]
        rw [hdr] at hem
        have hem : rr ≠ [] := hem
        have hct := cut_none rr HLN.out.2.1 wr
        have hsre := HSR.out
        rw [hdr] at hsre
        rw [show mkS rr = sr from hsre.symm] at hct
        have HPL : Hid (PaR t none (i + 1)) := keepH (by
          have h9 := HRD.out
          rw [HN.out, List.take_length] at h9
          have := PaR.rest ls rr st HLN.out (.inl hem) h9
          rwa [← HN.out] at this)
        have HCT := keepH hct
        clear hem hdr hct hsre hlt
        go_wp2_with fail
        refine HCT.out.mono ?_
        rintro e w4 ⟨rfl, B4⟩
        have HY4 := keepH (heap_below HYR.out B4)
        have HB4 := keepH (below_chain HBW.out B4)
        clear B4
        go_wp2_with (first | (refine wpList_store_row rfl 46 _ _ rfl R (#[.int .i64 0, .int .i64 0, .int .u64 0, .int .i64 0, .slice none 0 0, .slice none 0 0]) rfl rfl 46 (#[.int .i64 0, .int .i64 0, .int .u64 0, .int .i64 0, .slice none 0 0, .slice none 0 0]) HY4.out (by kernel_rfl) rfl (by simp [Value.oneCell']) ?_) | go_in)
        have hrow := setRow_heap _ R _ (#[.int .i64 0, .int .i64 0, .int .u64 0, .int .i64 0, .slice none 0 0, .slice none 0 0]) 46 (0, 0) HY4.out
        have e0 := cell_of hrow 0
        have e1 := cell_of hrow 1
        have e2 := cell_of hrow 2
        have e3 := cell_of hrow 3
        have e4 := cell_of hrow 4
        have e5 := cell_of hrow 5
        simp at e0 e1 e2 e3 e4 e5
        refine bodyPost_ret (v := .tuple #[.agg (#[.int .i64 0, .int .i64 0, .int .u64 0, .int .i64 0, .slice none 0 0, .slice none 0 0]), .int .i64 52, .int .i64 ((i + 1 : Nat) : Int)]) (by simp [results, Tryz.results21, go_sem, e0, e1, e2, e3, e4, e5]) rfl ?_
        exact ⟨none, i + 1, _, 52, rfl, HPL.out, rfl, rfl, below_setRow HB4.out HLR.out _⟩
end Go.Proofs.YtmmaniolaljjlaaGreatDoor
/- Two operations that are the same, by the document. -/
namespace Go.Proofs.YtmmaniolaljjlaaGreatDoor
open Go.RowKit Go.Shelf
set_option linter.unusedVariables false

theorem ref_neq (s : Bool) (a b : Int) (ha : isI a) (hb : isI b) (w : World) :
    (binOp .neq 25 (refV s a b) (refV s a b)).run Tryz.prog w = .ok (.bool false) w := by
  have h := ref_eql s a b s a b ha hb ha hb w
  simp only [binOp, go_sem]
  simp [h, Result.andThen]
set_option maxRecDepth 100000 in
set_option maxHeartbeats 4000000 in
theorem sameOp_any (k key val old hnd : Nat) (set : Bool) (rt ri : Int) (kp kp' : Option Addr) (kc kc' lo hi : Nat) (keys : List Nat) (ha : isI rt) (hb : isI ri) (hl : keys.length ≤ 10000000) (W : World) (hK : KRd W kp keys) (hK' : KRd W kp' keys) :
    Calls Tryz.prog 12 #[.agg (opR k key val old hnd set rt ri (.slice kp keys.length kc) lo hi), .agg (opR k key val old hnd set rt ri (.slice kp' keys.length kc') lo hi)] W fun e W' => e = .returned (.bool true) ∧ Below W.heap.size W W' := by
  have hr := fun w => ref_neq set rt ri ha hb w
  obtain ⟨n, hn⟩ : ∃ n, n = keys.length := ⟨_, rfl⟩
  rw [← hn] at hl ⊢
  obtain ⟨w1, hw1⟩ : ∃ w1, w1 = W.alloc (.cells (opR k key val old hnd set rt ri (.slice kp n kc) lo hi) 28) := ⟨_, rfl⟩
  obtain ⟨P, hP⟩ : ∃ P, P = W.heap.size := ⟨_, rfl⟩
  have B1 : Below W.heap.size W w1 := by rw [hw1]; exact below_alloc _ _
  have X1 : w1.heap[P]? = some (.cells (opR k key val old hnd set rt ri (.slice kp n kc) lo hi) 28 (0, 0)) := by rw [hw1, hP]; exact heap_alloc_new _ _
  obtain ⟨w2, hw2⟩ : ∃ w2, w2 = w1.alloc (.cells (opR k key val old hnd set rt ri (.slice kp' n kc') lo hi) 28) := ⟨_, rfl⟩
  obtain ⟨Q, hQ⟩ : ∃ Q, Q = w1.heap.size := ⟨_, rfl⟩
  have B2 : Below w1.heap.size w1 w2 := by rw [hw2]; exact below_alloc _ _
  have X2 : w2.heap[Q]? = some (.cells (opR k key val old hnd set rt ri (.slice kp' n kc') lo hi) 28 (0, 0)) := by rw [hw2, hQ]; exact heap_alloc_new _ _
  have Y2 := heap_below X1 B2
  have hQ2 : Q = W.heap.size + 1 := by rw [hQ, hw1]; simp
  have HQ2 := keepH hQ2
  have HW2 : Hid (w2 = (W.alloc (.cells (opR k key val old hnd set rt ri (.slice kp n kc) lo hi) 28)).alloc (.cells (opR k key val old hnd set rt ri (.slice kp' n kc') lo hi) 28)) := keepH (by rw [hw2, hw1])
  have HP := keepH hP
  have HB2 := keepH (below_chain B1 B2)
  have HK := keepH (hK.on (below_chain B1 B2))
  have HK' := keepH (hK'.on (below_chain B1 B2))
  have HX2 := keepH X2
  have HY2 := keepH Y2
  have HN := keepH hn
  have p0 : w2.cell? ⟨P, 0, none⟩ = _ := cell_of Y2 0
  have p1 : w2.cell? ⟨P, 1, none⟩ = _ := cell_of Y2 1
  have p2 : w2.cell? ⟨P, 2, none⟩ = _ := cell_of Y2 2
  have p3 : w2.cell? ⟨P, 3, none⟩ = _ := cell_of Y2 3
  have p4 : w2.cell? ⟨P, 4, none⟩ = _ := cell_of Y2 4
  have p5 : w2.cell? ⟨P, 5, none⟩ = _ := cell_of Y2 5
  have p6 : w2.cell? ⟨P, 6, none⟩ = _ := cell_of Y2 6
  have p7 : w2.cell? ⟨P, 7, none⟩ = _ := cell_of Y2 7
  have p8 : w2.cell? ⟨P, 8, none⟩ = _ := cell_of Y2 8
  have p9 : w2.cell? ⟨P, 9, none⟩ = _ := cell_of Y2 9
  have p10 : w2.cell? ⟨P, 10, none⟩ = _ := cell_of Y2 10
  have q0 : w2.cell? ⟨Q, 0, none⟩ = _ := cell_of X2 0
  have q1 : w2.cell? ⟨Q, 1, none⟩ = _ := cell_of X2 1
  have q2 : w2.cell? ⟨Q, 2, none⟩ = _ := cell_of X2 2
  have q3 : w2.cell? ⟨Q, 3, none⟩ = _ := cell_of X2 3
  have q4 : w2.cell? ⟨Q, 4, none⟩ = _ := cell_of X2 4
  have q5 : w2.cell? ⟨Q, 5, none⟩ = _ := cell_of X2 5
  have q6 : w2.cell? ⟨Q, 6, none⟩ = _ := cell_of X2 6
  have q7 : w2.cell? ⟨Q, 7, none⟩ = _ := cell_of X2 7
  have q8 : w2.cell? ⟨Q, 8, none⟩ = _ := cell_of X2 8
  have q9 : w2.cell? ⟨Q, 9, none⟩ = _ := cell_of X2 9
  have q10 : w2.cell? ⟨Q, 10, none⟩ = _ := cell_of X2 10
  clear hw1 hP B1 X1 hw2 hQ B2 X2 Y2 hQ2 hn hK hK' ha hb
  go_enter Tryz.func12, Tryz.ntmps12
  go_upto_region 1 with fail
  rw [← HW2.out, ← HQ2.out, ← HP.out]
  go_wp2_with fail
  clear p0 p1 p2 p3 p4 p5 p6 p7 p9 p10 q0 q1 q2 q3 q4 q5 q6 q7 q9 q10 p8 q8 hr
  go_loopw [5] (fun s wr => ∃ i : Nat, i ≤ n ∧ s = .int .i64 (i : Int) ∧ Hid (Below w2.heap.size w2 wr)) (fun s _ => n - (intOf s).toNat)
  case atStart => exact ⟨0, by omega, rfl, keepH (Below.refl _ _)⟩
  case round =>
    obtain ⟨i, him, rfl, HR⟩ := hrel
    have p8 : wr.cell? ⟨P, 8, none⟩ = _ := cell_of (heap_below HY2.out HR.out) 8
    have q8 : wr.cell? ⟨Q, 8, none⟩ = _ := cell_of (heap_below HX2.out HR.out) 8
    by_cases hlt : i < n
    · have t1 : (i : Int) < (n : Int) := by omega
      have t0 : (0 : Int) ≤ (i : Int) := by omega
      obtain ⟨x, hx⟩ : ∃ x, keys[i]? = some x := ⟨keys[i]'(by have := HN.out; omega), List.getElem?_eq_getElem _⟩
      obtain ⟨bk, off, rfl, _, c0⟩ := (HK.out.on HR.out).get i x hx
      obtain ⟨bk', off', rfl, _, d0⟩ := (HK'.out.on HR.out).get i x hx
      obtain ⟨z, hz⟩ : ∃ z : Int, z = (x : Int) := ⟨_, rfl⟩
      rw [← hz] at c0 d0
      clear hx hz
      go_wp2_with fail
      go_quiet (fail)
      go_wp2_with fail
      go_roundw
      case rel => exact ⟨i + 1, by omega, by first | rfl | go_num, keepH (HR.out.trans ⟨rfl, rfl, rfl, Nat.le_refl _, fun _ _ => rfl⟩)⟩
      case measure => simp [intOf]; omega
    · obtain rfl : i = n := by omega
      have t1 : ¬ (i : Int) < (i : Int) := by omega
      go_wp2_with fail
      go_ret
      exact ⟨by simp, below_chain HB2.out HR.out⟩
end Go.Proofs.YtmmaniolaljjlaaGreatDoor
/- Two scripts that are the same, by the document. (mkSer.py) -/
namespace Go.Proofs.YtmmaniolaljjlaaGreatDoor
open Go.RowKit Go.Joins Go.Shelf
set_option linter.unusedVariables false

theorem wf_u64 {n : Nat} (h : isU n) : (Lit.int .u64 (n : Int)).wf = true := by
  have e1 : IntKind.u64.min = 0 := by decide
  have e2 : IntKind.u64.max = 18446744073709551615 := by decide
  unfold isU at h
  simp [Lit.wf, e1, e2]
  omega
theorem trod_u (n : Nat) (h : isU n) (w : World) : ∃ m, DataW.trod (H := Unit) (fun _ => ()) Tryz.prog w 0 (fun _ => true) true m 23 [.int .u64 (n : Int)] = some (.lit (.int .u64 (n : Int)), []) :=
  ⟨1, by simp [DataW.trod, Tryz.underlying23, wf_u64 h]⟩
theorem cfg_key (ce sl : Int) (stp : Nat) (mu : Int) (h1 : isI ce) (h2 : isI sl) (h3 : isU stp) (h4 : isI mu) (w : World) : ∃ l, keyOf Tryz.prog 42 (.agg #[.int .i64 ce, .int .i64 sl, .int .u64 (stp : Int), .int .i64 mu]) = some l := by
  have t := shut_agg4 (enc := fun _ => ()) (P := Tryz.prog) (w := w) (base := 0) (spare := fun _ => true) (held := true) Tryz.underlying42 (by kernel_rfl) (by kernel_rfl) (trod_i ce h1 w) (trod_i sl h2 w) (trod_u stp h3 w) (trod_i mu h4 w)
  exact ⟨_, (keyOf_asKey (by kernel_rfl) (by kernel_rfl) (by kernel_rfl) t).1⟩
set_option maxRecDepth 100000 in
theorem cfg_neq (ce sl : Int) (stp : Nat) (mu : Int) (h1 : isI ce) (h2 : isI sl) (h3 : isU stp) (h4 : isI mu) (w : World) : (binOp .neq 42 (.agg #[.int .i64 ce, .int .i64 sl, .int .u64 (stp : Int), .int .i64 mu]) (.agg #[.int .i64 ce, .int .i64 sl, .int .u64 (stp : Int), .int .i64 mu])).run Tryz.prog w = .ok (.bool false) w := by
  obtain ⟨l, hl⟩ := cfg_key ce sl stp mu h1 h2 h3 h4 w
  obtain ⟨r, hr, hi⟩ := run_equal_deep (P := Tryz.prog) w (m := 3) (by omega) (by kernel_rfl) (by kernel_rfl) hl hl
  have hr1 : r = true := hi.2 rfl
  subst hr1
  simp only [binOp, go_sem]
  simp [hr, Result.andThen]
set_option maxRecDepth 100000 in
set_option maxHeartbeats 8000000 in
theorem dSame_any (ce sl : Int) (stp : Nat) (mu : Int) (h1 : isI ce) (h2 : isI sl) (h3 : isU stp) (h4 : isI mu) (tp tp' : Option Addr) (tc tc' : Nat) (pp pp' : Option Addr) (pc pc' : Nat) (ts : List (List Opx)) (ps : List Int) (hS : SOk ts ps) (W : World) (hT : TRd W tp ts) (hT' : TRd W tp' ts) (hP : IRd W pp ps) (hP' : IRd W pp' ps) :
    Calls Tryz.prog 20 #[.agg (scR ce sl stp mu (.slice tp ts.length tc) (.slice pp ps.length pc)), .agg (scR ce sl stp mu (.slice tp' ts.length tc') (.slice pp' ps.length pc'))] W fun e W' => e = .returned (.bool true) ∧ Below W.heap.size W W' := by
  have hcn := fun w => cfg_neq ce sl stp mu h1 h2 h3 h4 w
  obtain ⟨n, hn⟩ : ∃ n, n = ts.length := ⟨_, rfl⟩
  obtain ⟨m, hm⟩ : ∃ m, m = ps.length := ⟨_, rfl⟩
  have hn1 := hS.tl
  have hm1 := hS.pl
  rw [← hn] at hn1
  rw [← hm] at hm1
  rw [← hn, ← hm]
  obtain ⟨w1, hw1⟩ : ∃ w1, w1 = (W.alloc (.cells (scR ce sl stp mu (.slice tp n tc) (.slice pp m pc)) 46)).alloc (.cells (scR ce sl stp mu (.slice tp' n tc') (.slice pp' m pc')) 46) := ⟨_, rfl⟩
  obtain ⟨P, hPP⟩ : ∃ P, P = W.heap.size := ⟨_, rfl⟩
  obtain ⟨Q, hQQ⟩ : ∃ Q, Q = W.heap.size + 1 := ⟨_, rfl⟩
  have B1 : Below W.heap.size W w1 := by rw [hw1]; exact (below_alloc _ _).trans ((below_alloc _ _).mono (by simp))
  have X1 : w1.heap[P]? = some (.cells (scR ce sl stp mu (.slice tp n tc) (.slice pp m pc)) 46 (0, 0)) := by
    rw [hw1, hPP, Below.heap_alloc _ _ _ (by simp)]
    exact heap_alloc_new _ _
  have Y1 : w1.heap[Q]? = some (.cells (scR ce sl stp mu (.slice tp' n tc') (.slice pp' m pc')) 46 (0, 0)) := by
    rw [hw1, hQQ]
    have := heap_alloc_new (W.alloc (.cells (scR ce sl stp mu (.slice tp n tc) (.slice pp m pc)) 46)) (.cells (scR ce sl stp mu (.slice tp' n tc') (.slice pp' m pc')) 46)
    simpa using this
  have HP4 : Hid (∀ w, Below w1.heap.size w1 w → w.cell? ⟨P, 4, none⟩ = some (.slice tp n tc)) := keepH (fun w hb => cell_below (cell_of X1 4) hb)
  have HQ4 : Hid (∀ w, Below w1.heap.size w1 w → w.cell? ⟨Q, 4, none⟩ = some (.slice tp' n tc')) := keepH (fun w hb => cell_below (cell_of Y1 4) hb)
  have p0 : w1.cell? ⟨P, 0, none⟩ = _ := cell_of X1 0
  have q0 : w1.cell? ⟨Q, 0, none⟩ = _ := cell_of Y1 0
  have p1 : w1.cell? ⟨P, 1, none⟩ = _ := cell_of X1 1
  have q1 : w1.cell? ⟨Q, 1, none⟩ = _ := cell_of Y1 1
  have p2 : w1.cell? ⟨P, 2, none⟩ = _ := cell_of X1 2
  have q2 : w1.cell? ⟨Q, 2, none⟩ = _ := cell_of Y1 2
  have p3 : w1.cell? ⟨P, 3, none⟩ = _ := cell_of X1 3
  have q3 : w1.cell? ⟨Q, 3, none⟩ = _ := cell_of Y1 3
  have p4 : w1.cell? ⟨P, 4, none⟩ = _ := cell_of X1 4
  have q4 : w1.cell? ⟨Q, 4, none⟩ = _ := cell_of Y1 4
  have p5 : w1.cell? ⟨P, 5, none⟩ = _ := cell_of X1 5
  have q5 : w1.cell? ⟨Q, 5, none⟩ = _ := cell_of Y1 5
  have HN := keepH hn
  have HM := keepH hm
  have HW1 := keepH hw1
  have HP := keepH hPP
  have HQ := keepH hQQ
  have HB1 := keepH B1
  have HS := keepH hS
  have HT := keepH (hT.on B1)
  have HT2 := keepH (hT'.on B1)
  have HI := keepH (hP.on B1)
  have HI2 := keepH (hP'.on B1)
  clear hn hm hw1 hPP hQQ B1 X1 Y1 hS hT hT' hP hP' h1 h2 h3 h4
  go_enter Tryz.func20, Tryz.ntmps20
  go_upto_region 1 with fail
  rw [← HW1.out, ← HQ.out, ← HP.out]
  go_wp2_with fail
  go_loopw [5] (fun s5 wr => ∃ i : Nat, i ≤ m ∧ s5 = .int .i64 (i : Int) ∧ Hid (Below w1.heap.size w1 wr)) (fun s5 _ => m - (intOf s5).toNat)
  case atStart => exact ⟨0, by omega, rfl, keepH (Below.refl _ _)⟩
  case round =>
    obtain ⟨i, hi, rfl, HBW⟩ := hrel
    have p5 : wr.cell? ⟨P, 5, none⟩ = some (.slice pp m pc) := cell_below p5 HBW.out
    have q5 : wr.cell? ⟨Q, 5, none⟩ = some (.slice pp' m pc') := cell_below q5 HBW.out
    clear p0 p1 p2 p3 p4 q0 q1 q2 q3 q4
    by_cases hlt : i < m
    · have r1 : (i : Int) < (m : Int) := by omega
      have r0 : (0 : Int) ≤ (i : Int) := by omega
      have r1n : i < m := hlt
      obtain ⟨x, hx⟩ : ∃ x, ps[i]? = some x := ⟨ps[i]'(by have := HM.out; omega), List.getElem?_eq_getElem _⟩
      obtain ⟨bk, off, rfl, hbk, c0⟩ := (HI.out.on HBW.out).get i x hx
      obtain ⟨bk2, off2, rfl, hbk2, c1⟩ := (HI2.out.on HBW.out).get i x hx
      have qx : (x != x) = false := by simp
      clear hx hbk hbk2
      go_upto_region 6 with fail
      go_quiet (fail)
      go_wp2_with fail
      go_roundw
      case rel => exact ⟨i + 1, by omega, by first | rfl | go_num, keepH (below_drewN HBW.out _)⟩
      case measure => simp [intOf]; omega
    · obtain rfl : i = m := by omega
      have r1 : ¬ (i : Int) < (i : Int) := by omega
      clear q5
      go_wp2_with fail
      clear p5
      go_loopw [6, 7] (fun s6 s7 wr => ∃ i : Nat, i ≤ n ∧ s6 = .int .i64 (i : Int) ∧ Hid (Below w1.heap.size w1 wr)) (fun s6 _ _ => n - (intOf s6).toNat)
      case atStart => exact ⟨0, by omega, rfl, HBW⟩
      case round =>
        clear HBW
        obtain ⟨i, hi, rfl, HBW⟩ := hrel
        have p4 := HP4.out wr HBW.out
        have q4 := HQ4.out wr HBW.out
        by_cases hlt : i < n
        · have r1 : (i : Int) < (n : Int) := by omega
          have r1n : i < n := hlt
          have r0 : (0 : Int) ≤ (i : Int) := by omega
          obtain ⟨l, hl⟩ : ∃ l, ts[i]? = some l := ⟨ts[i]'(by have := HN.out; omega), List.getElem?_eq_getElem _⟩
          obtain ⟨bk, off, lp, lc, rfl, hbk, hO, c0⟩ := (HT.out.on HBW.out).get i l hl
          obtain ⟨bk2, off2, lp2, lc2, rfl, hbk2, hO2, c1⟩ := (HT2.out.on HBW.out).get i l hl
          obtain ⟨k, hk⟩ : ∃ k, k = l.length := ⟨_, rfl⟩
          have hk1 := HS.out.ll l (List.mem_of_getElem? hl)
          rw [← hk] at c0 c1 hk1
          have qk : ((k : Int) != (k : Int)) = false := by simp
          have HX := keepH hl
          have HK := keepH hk
          have HO := keepH hO
          have HO2 := keepH hO2
          obtain ⟨wo, hwo⟩ : ∃ wo, wo = wr := ⟨_, rfl⟩
          subst hwo
          have HC0 : Hid (∀ w, Below wo.heap.size wo w → w.cell? ⟨bk, off + i, none⟩ = some (.slice lp k lc)) := keepH (fun w hb => cell_below c0 hb)
          have HC1 : Hid (∀ w, Below wo.heap.size wo w → w.cell? ⟨bk2, off2 + i, none⟩ = some (.slice lp2 k lc2)) := keepH (fun w hb => cell_below c1 hb)
          clear hl hk hbk hO hbk2 hO2
          go_upto_region 11 with fail
          go_quiet (fail)
          go_wp2_with fail
          go_loopw [7] (fun s7 wr => ∃ j : Nat, j ≤ k ∧ s7 = .int .i64 (j : Int) ∧ Hid (Below wo.heap.size wo wr)) (fun s7 _ => k - (intOf s7).toNat)
          case atStart => exact ⟨0, by omega, rfl, keepH (below_drewN (Below.refl _ _) _)⟩
          case round =>
            clear p4 q4 c0 c1
            obtain ⟨j, hj, rfl, HBX⟩ := hrel
            have p4 := HP4.out wr (below_chain HBW.out HBX.out)
            have c0 := HC0.out wr HBX.out
            by_cases hlj : j < k
            · have s1 : (j : Int) < (k : Int) := by omega
              have s0 : (0 : Int) ≤ (j : Int) := by omega
              have s1n : j < k := hlj
              obtain ⟨o, ho⟩ : ∃ o, l[j]? = some o := ⟨l[j]'(by have := HK.out; omega), List.getElem?_eq_getElem _⟩
              obtain ⟨xb, xo, kp, kc, rfl, hxb, hKR, a0, a1, a2, a3, a4, a5, a6, a7, a8, a9, a10⟩ := (HO.out.on HBX.out).get j o ho
              obtain ⟨yb, yo, kp2, kc2, rfl, hyb, hKR2, b0, b1, b2, b3, b4, b5, b6, b7, b8, b9, b10⟩ := (HO2.out.on HBX.out).get j o ho
              have hoo := HS.out.ok l (List.mem_of_getElem? HX.out) o (List.mem_of_getElem? ho)
              obtain ⟨ok, key, val, old, hnd, set, rt, ri, keys, lo, hi2⟩ := o
              simp only at a0 a1 a2 a3 a4 a5 a6 a7 a8 a9 a10 b0 b1 b2 b3 b4 b5 b6 b7 b8 b9 b10 hKR hKR2
              have hso := fun w (hb : Below wr.heap.size wr w) => sameOp_any ok key val old hnd set rt ri kp kp2 kc kc2 lo hi2 keys hoo.1.rt hoo.1.ri hoo.2 w (hKR.on hb) (hKR2.on hb)
              obtain ⟨nk, hnk⟩ : ∃ nk, nk = keys.length := ⟨_, rfl⟩
              rw [← hnk] at a8 b8 hso
              have hall : (fun w => (w.cell? ⟨P, 4, none⟩ = some (.slice (some ⟨bk, off, none⟩) n tc) ∧ w.cell? ⟨bk, off + i, none⟩ = some (.slice (some ⟨xb, xo, none⟩) k lc)) ∧ (w.cell? ⟨Q, 4, none⟩ = some (.slice (some ⟨bk2, off2, none⟩) n tc') ∧ w.cell? ⟨bk2, off2 + i, none⟩ = some (.slice (some ⟨yb, yo, none⟩) k lc2)) ∧ (w.cell? ⟨xb, xo + j * 11, none⟩ = some (.int .u8 (ok : Int)) ∧ w.cell? ⟨xb, xo + j * 11 + 1, none⟩ = some (.int .u64 (key : Int)) ∧ w.cell? ⟨xb, xo + j * 11 + 2, none⟩ = some (.int .u64 (val : Int)) ∧ w.cell? ⟨xb, xo + j * 11 + 3, none⟩ = some (.int .u64 (old : Int)) ∧ w.cell? ⟨xb, xo + j * 11 + 4, none⟩ = some (.int .u64 (hnd : Int)) ∧ w.cell? ⟨xb, xo + j * 11 + 5, none⟩ = some (.bool set) ∧ w.cell? ⟨xb, xo + j * 11 + 6, none⟩ = some (.int .i64 rt) ∧ w.cell? ⟨xb, xo + j * 11 + 7, none⟩ = some (.int .i64 ri) ∧ w.cell? ⟨xb, xo + j * 11 + 8, none⟩ = some (.slice kp nk kc) ∧ w.cell? ⟨xb, xo + j * 11 + 9, none⟩ = some (.int .u64 (lo : Int)) ∧ w.cell? ⟨xb, xo + j * 11 + 10, none⟩ = some (.int .u64 (hi2 : Int))) ∧ (w.cell? ⟨yb, yo + j * 11, none⟩ = some (.int .u8 (ok : Int)) ∧ w.cell? ⟨yb, yo + j * 11 + 1, none⟩ = some (.int .u64 (key : Int)) ∧ w.cell? ⟨yb, yo + j * 11 + 2, none⟩ = some (.int .u64 (val : Int)) ∧ w.cell? ⟨yb, yo + j * 11 + 3, none⟩ = some (.int .u64 (old : Int)) ∧ w.cell? ⟨yb, yo + j * 11 + 4, none⟩ = some (.int .u64 (hnd : Int)) ∧ w.cell? ⟨yb, yo + j * 11 + 5, none⟩ = some (.bool set) ∧ w.cell? ⟨yb, yo + j * 11 + 6, none⟩ = some (.int .i64 rt) ∧ w.cell? ⟨yb, yo + j * 11 + 7, none⟩ = some (.int .i64 ri) ∧ w.cell? ⟨yb, yo + j * 11 + 8, none⟩ = some (.slice kp2 nk kc2) ∧ w.cell? ⟨yb, yo + j * 11 + 9, none⟩ = some (.int .u64 (lo : Int)) ∧ w.cell? ⟨yb, yo + j * 11 + 10, none⟩ = some (.int .u64 (hi2 : Int)))) wr := ⟨⟨p4, c0⟩, ⟨HQ4.out wr (below_chain HBW.out HBX.out), HC1.out wr HBX.out⟩, ⟨a0, a1, a2, a3, a4, a5, a6, a7, a8, a9, a10⟩, ⟨b0, b1, b2, b3, b4, b5, b6, b7, b8, b9, b10⟩⟩
              have HK0 : Hid ((fun w => (w.cell? ⟨P, 4, none⟩ = some (.slice (some ⟨bk, off, none⟩) n tc) ∧ w.cell? ⟨bk, off + i, none⟩ = some (.slice (some ⟨xb, xo, none⟩) k lc)) ∧ (w.cell? ⟨Q, 4, none⟩ = some (.slice (some ⟨bk2, off2, none⟩) n tc') ∧ w.cell? ⟨bk2, off2 + i, none⟩ = some (.slice (some ⟨yb, yo, none⟩) k lc2)) ∧ (w.cell? ⟨xb, xo + j * 11, none⟩ = some (.int .u8 (ok : Int)) ∧ w.cell? ⟨xb, xo + j * 11 + 1, none⟩ = some (.int .u64 (key : Int)) ∧ w.cell? ⟨xb, xo + j * 11 + 2, none⟩ = some (.int .u64 (val : Int)) ∧ w.cell? ⟨xb, xo + j * 11 + 3, none⟩ = some (.int .u64 (old : Int)) ∧ w.cell? ⟨xb, xo + j * 11 + 4, none⟩ = some (.int .u64 (hnd : Int)) ∧ w.cell? ⟨xb, xo + j * 11 + 5, none⟩ = some (.bool set) ∧ w.cell? ⟨xb, xo + j * 11 + 6, none⟩ = some (.int .i64 rt) ∧ w.cell? ⟨xb, xo + j * 11 + 7, none⟩ = some (.int .i64 ri) ∧ w.cell? ⟨xb, xo + j * 11 + 8, none⟩ = some (.slice kp nk kc) ∧ w.cell? ⟨xb, xo + j * 11 + 9, none⟩ = some (.int .u64 (lo : Int)) ∧ w.cell? ⟨xb, xo + j * 11 + 10, none⟩ = some (.int .u64 (hi2 : Int))) ∧ (w.cell? ⟨yb, yo + j * 11, none⟩ = some (.int .u8 (ok : Int)) ∧ w.cell? ⟨yb, yo + j * 11 + 1, none⟩ = some (.int .u64 (key : Int)) ∧ w.cell? ⟨yb, yo + j * 11 + 2, none⟩ = some (.int .u64 (val : Int)) ∧ w.cell? ⟨yb, yo + j * 11 + 3, none⟩ = some (.int .u64 (old : Int)) ∧ w.cell? ⟨yb, yo + j * 11 + 4, none⟩ = some (.int .u64 (hnd : Int)) ∧ w.cell? ⟨yb, yo + j * 11 + 5, none⟩ = some (.bool set) ∧ w.cell? ⟨yb, yo + j * 11 + 6, none⟩ = some (.int .i64 rt) ∧ w.cell? ⟨yb, yo + j * 11 + 7, none⟩ = some (.int .i64 ri) ∧ w.cell? ⟨yb, yo + j * 11 + 8, none⟩ = some (.slice kp2 nk kc2) ∧ w.cell? ⟨yb, yo + j * 11 + 9, none⟩ = some (.int .u64 (lo : Int)) ∧ w.cell? ⟨yb, yo + j * 11 + 10, none⟩ = some (.int .u64 (hi2 : Int)))) wr.drew) := keepH hall
              have HKE : Hid (∀ w, Below wr.heap.size wr w → (fun w => (w.cell? ⟨P, 4, none⟩ = some (.slice (some ⟨bk, off, none⟩) n tc) ∧ w.cell? ⟨bk, off + i, none⟩ = some (.slice (some ⟨xb, xo, none⟩) k lc)) ∧ (w.cell? ⟨Q, 4, none⟩ = some (.slice (some ⟨bk2, off2, none⟩) n tc') ∧ w.cell? ⟨bk2, off2 + i, none⟩ = some (.slice (some ⟨yb, yo, none⟩) k lc2)) ∧ (w.cell? ⟨xb, xo + j * 11, none⟩ = some (.int .u8 (ok : Int)) ∧ w.cell? ⟨xb, xo + j * 11 + 1, none⟩ = some (.int .u64 (key : Int)) ∧ w.cell? ⟨xb, xo + j * 11 + 2, none⟩ = some (.int .u64 (val : Int)) ∧ w.cell? ⟨xb, xo + j * 11 + 3, none⟩ = some (.int .u64 (old : Int)) ∧ w.cell? ⟨xb, xo + j * 11 + 4, none⟩ = some (.int .u64 (hnd : Int)) ∧ w.cell? ⟨xb, xo + j * 11 + 5, none⟩ = some (.bool set) ∧ w.cell? ⟨xb, xo + j * 11 + 6, none⟩ = some (.int .i64 rt) ∧ w.cell? ⟨xb, xo + j * 11 + 7, none⟩ = some (.int .i64 ri) ∧ w.cell? ⟨xb, xo + j * 11 + 8, none⟩ = some (.slice kp nk kc) ∧ w.cell? ⟨xb, xo + j * 11 + 9, none⟩ = some (.int .u64 (lo : Int)) ∧ w.cell? ⟨xb, xo + j * 11 + 10, none⟩ = some (.int .u64 (hi2 : Int))) ∧ (w.cell? ⟨yb, yo + j * 11, none⟩ = some (.int .u8 (ok : Int)) ∧ w.cell? ⟨yb, yo + j * 11 + 1, none⟩ = some (.int .u64 (key : Int)) ∧ w.cell? ⟨yb, yo + j * 11 + 2, none⟩ = some (.int .u64 (val : Int)) ∧ w.cell? ⟨yb, yo + j * 11 + 3, none⟩ = some (.int .u64 (old : Int)) ∧ w.cell? ⟨yb, yo + j * 11 + 4, none⟩ = some (.int .u64 (hnd : Int)) ∧ w.cell? ⟨yb, yo + j * 11 + 5, none⟩ = some (.bool set) ∧ w.cell? ⟨yb, yo + j * 11 + 6, none⟩ = some (.int .i64 rt) ∧ w.cell? ⟨yb, yo + j * 11 + 7, none⟩ = some (.int .i64 ri) ∧ w.cell? ⟨yb, yo + j * 11 + 8, none⟩ = some (.slice kp2 nk kc2) ∧ w.cell? ⟨yb, yo + j * 11 + 9, none⟩ = some (.int .u64 (lo : Int)) ∧ w.cell? ⟨yb, yo + j * 11 + 10, none⟩ = some (.int .u64 (hi2 : Int)))) w) := keepH (fun w hb => by
                obtain ⟨⟨x1, x2⟩, ⟨x3, x4⟩, ⟨z0, z1, z2, z3, z4, z5, z6, z7, z8, z9, z10⟩, ⟨y0, y1, y2, y3, y4, y5, y6, y7, y8, y9, y10⟩⟩ := hall
                exact ⟨⟨cell_below x1 hb, cell_below x2 hb⟩, ⟨cell_below x3 hb, cell_below x4 hb⟩, ⟨cell_below z0 hb, cell_below z1 hb, cell_below z2 hb, cell_below z3 hb, cell_below z4 hb, cell_below z5 hb, cell_below z6 hb, cell_below z7 hb, cell_below z8 hb, cell_below z9 hb, cell_below z10 hb⟩, ⟨cell_below y0 hb, cell_below y1 hb, cell_below y2 hb, cell_below y3 hb, cell_below y4 hb, cell_below y5 hb, cell_below y6 hb, cell_below y7 hb, cell_below y8 hb, cell_below y9 hb, cell_below y10 hb⟩⟩)
              have HSO := keepH hso
              obtain ⟨wx, hwx⟩ : ∃ wx, wx = wr := ⟨_, rfl⟩
              subst hwx
              have HBXo := keepH HBX.out
              have HBX := keepH (Below.refl wx.heap.size wx)
              clear ho hKR hKR2 hxb hyb hnk hoo hso hall a0 a1 a2 a3 a4 a5 a6 a7 a8 a9 a10 b0 b1 b2 b3 b4 b5 b6 b7 b8 b9 b10
              go_upto_region 16 with fail
              clear p4 c0
              refine wp_region_held_drew (S := fun w => (w.cell? ⟨P, 4, none⟩ = some (.slice (some ⟨bk, off, none⟩) n tc) ∧ w.cell? ⟨bk, off + i, none⟩ = some (.slice (some ⟨xb, xo, none⟩) k lc)) ∧ (w.cell? ⟨Q, 4, none⟩ = some (.slice (some ⟨bk2, off2, none⟩) n tc') ∧ w.cell? ⟨bk2, off2 + i, none⟩ = some (.slice (some ⟨yb, yo, none⟩) k lc2)) ∧ (w.cell? ⟨xb, xo + j * 11, none⟩ = some (.int .u8 (ok : Int)) ∧ w.cell? ⟨xb, xo + j * 11 + 1, none⟩ = some (.int .u64 (key : Int)) ∧ w.cell? ⟨xb, xo + j * 11 + 2, none⟩ = some (.int .u64 (val : Int)) ∧ w.cell? ⟨xb, xo + j * 11 + 3, none⟩ = some (.int .u64 (old : Int)) ∧ w.cell? ⟨xb, xo + j * 11 + 4, none⟩ = some (.int .u64 (hnd : Int)) ∧ w.cell? ⟨xb, xo + j * 11 + 5, none⟩ = some (.bool set) ∧ w.cell? ⟨xb, xo + j * 11 + 6, none⟩ = some (.int .i64 rt) ∧ w.cell? ⟨xb, xo + j * 11 + 7, none⟩ = some (.int .i64 ri) ∧ w.cell? ⟨xb, xo + j * 11 + 8, none⟩ = some (.slice kp nk kc) ∧ w.cell? ⟨xb, xo + j * 11 + 9, none⟩ = some (.int .u64 (lo : Int)) ∧ w.cell? ⟨xb, xo + j * 11 + 10, none⟩ = some (.int .u64 (hi2 : Int))) ∧ (w.cell? ⟨yb, yo + j * 11, none⟩ = some (.int .u8 (ok : Int)) ∧ w.cell? ⟨yb, yo + j * 11 + 1, none⟩ = some (.int .u64 (key : Int)) ∧ w.cell? ⟨yb, yo + j * 11 + 2, none⟩ = some (.int .u64 (val : Int)) ∧ w.cell? ⟨yb, yo + j * 11 + 3, none⟩ = some (.int .u64 (old : Int)) ∧ w.cell? ⟨yb, yo + j * 11 + 4, none⟩ = some (.int .u64 (hnd : Int)) ∧ w.cell? ⟨yb, yo + j * 11 + 5, none⟩ = some (.bool set) ∧ w.cell? ⟨yb, yo + j * 11 + 6, none⟩ = some (.int .i64 rt) ∧ w.cell? ⟨yb, yo + j * 11 + 7, none⟩ = some (.int .i64 ri) ∧ w.cell? ⟨yb, yo + j * 11 + 8, none⟩ = some (.slice kp2 nk kc2) ∧ w.cell? ⟨yb, yo + j * 11 + 9, none⟩ = some (.int .u64 (lo : Int)) ∧ w.cell? ⟨yb, yo + j * 11 + 10, none⟩ = some (.int .u64 (hi2 : Int)))) (by kernel_rfl) (HK0.out) ?_
              intro hHeld
              refine wpAnyH_take (i := 0) (v := ?_) rfl (by kernel_rfl) (by kernel_rfl) (by kernel_rfl) (fun _ _ _ h => h) (Or.inl ⟨by rfl, ?_⟩) hHeld ?_
              rotate_left
              · intro w hSw
                (try dsimp only at hSw)
                go_simp
                try with_reducible rfl
              (try simp only [Act.put]); (try simp only [List.setIfInBounds_toArray]); (try simp only [List.getElem_toArray]); (repeat (first | simp only [List.getElem_cons_succ] | simp only [List.getElem_cons_zero])); (repeat (first | simp only [List.set_cons_succ] | simp only [List.set_cons_zero]))
              refine wpAnyH_take (i := 1) (v := ?_) rfl (by kernel_rfl) (by kernel_rfl) (by kernel_rfl) (fun _ _ _ h => h) (Or.inl ⟨by rfl, ?_⟩) hHeld ?_
              rotate_left
              · intro w hSw
                (try dsimp only at hSw)
                have y0 := hSw.1.1
                go_simp
                try with_reducible rfl
              (try simp only [Act.put]); (try simp only [List.setIfInBounds_toArray]); (try simp only [List.getElem_toArray]); (repeat (first | simp only [List.getElem_cons_succ] | simp only [List.getElem_cons_zero])); (repeat (first | simp only [List.set_cons_succ] | simp only [List.set_cons_zero]))
              refine wpAnyH_take (i := 2) (v := ?_) rfl (by kernel_rfl) (by kernel_rfl) (by kernel_rfl) (fun _ _ _ h => h) (Or.inl ⟨by rfl, ?_⟩) hHeld ?_
              rotate_left
              · intro w hSw
                (try dsimp only at hSw)
                go_simp
                try with_reducible rfl
              (try simp only [Act.put]); (try simp only [List.setIfInBounds_toArray]); (try simp only [List.getElem_toArray]); (repeat (first | simp only [List.getElem_cons_succ] | simp only [List.getElem_cons_zero])); (repeat (first | simp only [List.set_cons_succ] | simp only [List.set_cons_zero]))
              refine wpAnyH_take (i := 3) (v := ?_) rfl (by kernel_rfl) (by kernel_rfl) (by kernel_rfl) (fun _ _ _ h => h) (Or.inl ⟨by rfl, ?_⟩) hHeld ?_
              rotate_left
              · intro w hSw
                (try dsimp only at hSw)
                go_simp
                try with_reducible rfl
              (try simp only [Act.put]); (try simp only [List.setIfInBounds_toArray]); (try simp only [List.getElem_toArray]); (repeat (first | simp only [List.getElem_cons_succ] | simp only [List.getElem_cons_zero])); (repeat (first | simp only [List.set_cons_succ] | simp only [List.set_cons_zero]))
              refine wpAnyH_take (i := 4) (v := ?_) rfl (by kernel_rfl) (by kernel_rfl) (by kernel_rfl) (fun _ _ _ h => h) (Or.inl ⟨by rfl, ?_⟩) hHeld ?_
              rotate_left
              · intro w hSw
                (try dsimp only at hSw)
                have y0 := hSw.1.2
                go_simp
                try with_reducible rfl
              (try simp only [Act.put]); (try simp only [List.setIfInBounds_toArray]); (try simp only [List.getElem_toArray]); (repeat (first | simp only [List.getElem_cons_succ] | simp only [List.getElem_cons_zero])); (repeat (first | simp only [List.set_cons_succ] | simp only [List.set_cons_zero]))
              refine wpAnyH_take (i := 5) (v := ?_) rfl (by kernel_rfl) (by kernel_rfl) (by kernel_rfl) (fun _ _ _ h => h) (Or.inl ⟨by rfl, ?_⟩) hHeld ?_
              rotate_left
              · intro w hSw
                (try dsimp only at hSw)
                go_simp
                try with_reducible rfl
              (try simp only [Act.put]); (try simp only [List.setIfInBounds_toArray]); (try simp only [List.getElem_toArray]); (repeat (first | simp only [List.getElem_cons_succ] | simp only [List.getElem_cons_zero])); (repeat (first | simp only [List.set_cons_succ] | simp only [List.set_cons_zero]))
              refine wpAnyH_take (i := 6) (v := ?_) rfl (by kernel_rfl) (by kernel_rfl) (by kernel_rfl) (fun _ _ _ h => h) (Or.inl ⟨by rfl, ?_⟩) hHeld ?_
              rotate_left
              · intro w hSw
                (try dsimp only at hSw)
                go_simp
                try with_reducible rfl
              (try simp only [Act.put]); (try simp only [List.setIfInBounds_toArray]); (try simp only [List.getElem_toArray]); (repeat (first | simp only [List.getElem_cons_succ] | simp only [List.getElem_cons_zero])); (repeat (first | simp only [List.set_cons_succ] | simp only [List.set_cons_zero]))
              refine wpAnyH_take (i := 7) (v := ?_) rfl (by kernel_rfl) (by kernel_rfl) (by kernel_rfl) (fun _ _ _ h => h) (Or.inl ⟨by rfl, ?_⟩) hHeld ?_
              rotate_left
              · intro w hSw
                (try dsimp only at hSw)
                obtain ⟨y0, y1, y2, y3, y4, y5, y6, y7, y8, y9, y10⟩ := hSw.2.2.1
                go_simp
                try with_reducible rfl
              (try simp only [Act.put]); (try simp only [List.setIfInBounds_toArray]); (try simp only [List.getElem_toArray]); (repeat (first | simp only [List.getElem_cons_succ] | simp only [List.getElem_cons_zero])); (repeat (first | simp only [List.set_cons_succ] | simp only [List.set_cons_zero]))
              refine wpAnyH_take (i := 8) (v := ?_) rfl (by kernel_rfl) (by kernel_rfl) (by kernel_rfl) (fun _ _ _ h => h) (Or.inl ⟨by rfl, ?_⟩) hHeld ?_
              rotate_left
              · intro w hSw
                (try dsimp only at hSw)
                go_simp
                try with_reducible rfl
              (try simp only [Act.put]); (try simp only [List.setIfInBounds_toArray]); (try simp only [List.getElem_toArray]); (repeat (first | simp only [List.getElem_cons_succ] | simp only [List.getElem_cons_zero])); (repeat (first | simp only [List.set_cons_succ] | simp only [List.set_cons_zero]))
              refine wpAnyH_take (i := 9) (v := ?_) rfl (by kernel_rfl) (by kernel_rfl) (by kernel_rfl) (fun _ _ _ h => h) (Or.inl ⟨by rfl, ?_⟩) hHeld ?_
              rotate_left
              · intro w hSw
                (try dsimp only at hSw)
                have y0 := hSw.2.1.1
                go_simp
                try with_reducible rfl
              (try simp only [Act.put]); (try simp only [List.setIfInBounds_toArray]); (try simp only [List.getElem_toArray]); (repeat (first | simp only [List.getElem_cons_succ] | simp only [List.getElem_cons_zero])); (repeat (first | simp only [List.set_cons_succ] | simp only [List.set_cons_zero]))
              refine wpAnyH_take (i := 10) (v := ?_) rfl (by kernel_rfl) (by kernel_rfl) (by kernel_rfl) (fun _ _ _ h => h) (Or.inl ⟨by rfl, ?_⟩) hHeld ?_
              rotate_left
              · intro w hSw
                (try dsimp only at hSw)
                go_simp
                try with_reducible rfl
              (try simp only [Act.put]); (try simp only [List.setIfInBounds_toArray]); (try simp only [List.getElem_toArray]); (repeat (first | simp only [List.getElem_cons_succ] | simp only [List.getElem_cons_zero])); (repeat (first | simp only [List.set_cons_succ] | simp only [List.set_cons_zero]))
              refine wpAnyH_take (i := 11) (v := ?_) rfl (by kernel_rfl) (by kernel_rfl) (by kernel_rfl) (fun _ _ _ h => h) (Or.inl ⟨by rfl, ?_⟩) hHeld ?_
              rotate_left
              · intro w hSw
                (try dsimp only at hSw)
                go_simp
                try with_reducible rfl
              (try simp only [Act.put]); (try simp only [List.setIfInBounds_toArray]); (try simp only [List.getElem_toArray]); (repeat (first | simp only [List.getElem_cons_succ] | simp only [List.getElem_cons_zero])); (repeat (first | simp only [List.set_cons_succ] | simp only [List.set_cons_zero]))
              refine wpAnyH_take (i := 12) (v := ?_) rfl (by kernel_rfl) (by kernel_rfl) (by kernel_rfl) (fun _ _ _ h => h) (Or.inl ⟨by rfl, ?_⟩) hHeld ?_
              rotate_left
              · intro w hSw
                (try dsimp only at hSw)
                have y0 := hSw.2.1.2
                go_simp
                try with_reducible rfl
              (try simp only [Act.put]); (try simp only [List.setIfInBounds_toArray]); (try simp only [List.getElem_toArray]); (repeat (first | simp only [List.getElem_cons_succ] | simp only [List.getElem_cons_zero])); (repeat (first | simp only [List.set_cons_succ] | simp only [List.set_cons_zero]))
              refine wpAnyH_take (i := 13) (v := ?_) rfl (by kernel_rfl) (by kernel_rfl) (by kernel_rfl) (fun _ _ _ h => h) (Or.inl ⟨by rfl, ?_⟩) hHeld ?_
              rotate_left
              · intro w hSw
                (try dsimp only at hSw)
                go_simp
                try with_reducible rfl
              (try simp only [Act.put]); (try simp only [List.setIfInBounds_toArray]); (try simp only [List.getElem_toArray]); (repeat (first | simp only [List.getElem_cons_succ] | simp only [List.getElem_cons_zero])); (repeat (first | simp only [List.set_cons_succ] | simp only [List.set_cons_zero]))
              refine wpAnyH_take (i := 14) (v := ?_) rfl (by kernel_rfl) (by kernel_rfl) (by kernel_rfl) (fun _ _ _ h => h) (Or.inl ⟨by rfl, ?_⟩) hHeld ?_
              rotate_left
              · intro w hSw
                (try dsimp only at hSw)
                go_simp
                try with_reducible rfl
              (try simp only [Act.put]); (try simp only [List.setIfInBounds_toArray]); (try simp only [List.getElem_toArray]); (repeat (first | simp only [List.getElem_cons_succ] | simp only [List.getElem_cons_zero])); (repeat (first | simp only [List.set_cons_succ] | simp only [List.set_cons_zero]))
              refine wpAnyH_take (i := 15) (v := ?_) rfl (by kernel_rfl) (by kernel_rfl) (by kernel_rfl) (fun _ _ _ h => h) (Or.inl ⟨by rfl, ?_⟩) hHeld ?_
              rotate_left
              · intro w hSw
                (try dsimp only at hSw)
                obtain ⟨y0, y1, y2, y3, y4, y5, y6, y7, y8, y9, y10⟩ := hSw.2.2.2
                go_simp
                try with_reducible rfl
              (try simp only [Act.put]); (try simp only [List.setIfInBounds_toArray]); (try simp only [List.getElem_toArray]); (repeat (first | simp only [List.getElem_cons_succ] | simp only [List.getElem_cons_zero])); (repeat (first | simp only [List.set_cons_succ] | simp only [List.set_cons_zero]))
              refine wpAnyH_ready (rs := [16]) (by kernel_rfl) (by simp) ?_
              refine AllReadyH.cons rfl (fun KK hKK => ?_) AllReadyH.nil
              go_simp
              refine (HSO.out _ (below_drewN HBX.out 1)).mono ?_
              rintro e w8 ⟨rfl, D9⟩
              have HB8 := keepH (below_chain (below_drewN HBX.out 1) D9)
              have hcc := HKE.out w8 HB8.out
              clear D9
              refine hKK.out _ _ ?_ (fun hHeld => ?_)
              · exact hcc
              clear hKK KK
              (try simp only [Act.put]); (try simp only [List.setIfInBounds_toArray]); (try simp only [List.getElem_toArray]); (repeat (first | simp only [List.getElem_cons_succ] | simp only [List.getElem_cons_zero])); (repeat (first | simp only [List.set_cons_succ] | simp only [List.set_cons_zero]))
              refine wpAnyH_take (i := 17) (v := ?_) rfl (by kernel_rfl) (by kernel_rfl) (by kernel_rfl) (fun _ _ _ h => h) (Or.inl ⟨by rfl, ?_⟩) hHeld ?_
              rotate_left
              · intro w hSw
                (try dsimp only at hSw)
                go_simp
                try with_reducible rfl
              (try simp only [Act.put]); (try simp only [List.setIfInBounds_toArray]); (try simp only [List.getElem_toArray]); (repeat (first | simp only [List.getElem_cons_succ] | simp only [List.getElem_cons_zero])); (repeat (first | simp only [List.set_cons_succ] | simp only [List.set_cons_zero]))
              refine wpAnyH_done (by kernel_rfl) ?_ _
              go_simp
              clear hHeld
              go_wp2_with fail
              go_roundw
              case rel => exact ⟨j + 1, by omega, by first | rfl | go_num, keepH (below_chain HBXo.out HB8.out)⟩
              case measure => simp [intOf]; omega
            · obtain rfl : j = k := by omega
              have s1 : ¬ (j : Int) < (j : Int) := by omega
              have HB8 := keepH (below_chain HBW.out HBX.out)
              go_wp2_with fail
              go_roundw
              case rel => exact ⟨i + 1, by omega, by first | rfl | go_num, HB8⟩
              case measure => simp [intOf]; omega
        · obtain rfl : i = n := by omega
          have r1 : ¬ (i : Int) < (i : Int) := by omega
          have HB8 := keepH (below_chain HB1.out HBW.out)
          go_wp2_with fail
          go_ret
          exact ⟨rfl, HB8.out⟩
end Go.Proofs.YtmmaniolaljjlaaGreatDoor
