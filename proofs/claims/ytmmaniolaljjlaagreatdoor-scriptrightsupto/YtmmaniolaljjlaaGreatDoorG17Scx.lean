/- PrintOp, by the document. (mkScz.py) -/
import Derived.Test.YtmmaniolaljjlaaGreatDoorScy
import Derived.Test.YtmmaniolaljjlaaGreatDoorSep
import Derived.Test.YtmmaniolaljjlaaGreatDoorG12Sct
namespace Go.Proofs.YtmmaniolaljjlaaGreatDoor
open Go.RowKit Go.Shelf
set_option linter.unusedVariables false

set_option maxRecDepth 100000 in
set_option maxHeartbeats 4000000 in
theorem dPrint_err (k key val old hnd : Nat) (set : Bool) (rt ri : Int) (kp : Option Addr) (n kc lo hi : Nat) (hk : k < 256) (h1 : isU key) (h2 : isU val) (h3 : isU old) (h4 : isU hnd) (h5 : isU lo) (h6 : isU hi) (ha : isI rt) (hb : isI ri) (hf : faultN k key val old hnd set rt ri kp n kc lo hi ≠ 0) (W : World) :
    Calls Tryz.prog 8 #[.agg (opR k key val old hnd set rt ri (.slice kp n kc) lo hi)] W fun e W' => e = .returned (.tuple #[.string (mkS []), .int .i64 (faultN k key val old hnd set rt ri kp n kc lo hi : Int)]) ∧ Below W.heap.size W W' := by
  have HOP := keepH (fun w => dOp_any k key val old hnd set rt ri kp n kc lo hi hk h1 h2 h3 h4 h5 h6 ha hb w)
  obtain ⟨E, hE⟩ : ∃ E, E = faultN k key val old hnd set rt ri kp n kc lo hi := ⟨_, rfl⟩
  rw [← hE] at HOP hf ⊢
  obtain ⟨w1, hw1⟩ : ∃ w1, w1 = W.alloc (.cells (opR k key val old hnd set rt ri (.slice kp n kc) lo hi) 28) := ⟨_, rfl⟩
  obtain ⟨P, hP⟩ : ∃ P, P = W.heap.size := ⟨_, rfl⟩
  have B1 : Below W.heap.size W w1 := by rw [hw1]; exact below_alloc _ _
  have X1 : w1.heap[P]? = some (.cells (opR k key val old hnd set rt ri (.slice kp n kc) lo hi) 28 (0, 0)) := by rw [hw1, hP]; exact heap_alloc_new _ _
  have HW1 := keepH hw1
  have HP := keepH hP
  have HB1 := keepH B1
  have c0 : w1.cell? ⟨P, 0, none⟩ = _ := cell_of X1 0
  have c1 : w1.cell? ⟨P, 1, none⟩ = _ := cell_of X1 1
  have c2 : w1.cell? ⟨P, 2, none⟩ = _ := cell_of X1 2
  have c3 : w1.cell? ⟨P, 3, none⟩ = _ := cell_of X1 3
  have c4 : w1.cell? ⟨P, 4, none⟩ = _ := cell_of X1 4
  have c5 : w1.cell? ⟨P, 5, none⟩ = _ := cell_of X1 5
  have c6 : w1.cell? ⟨P, 6, none⟩ = _ := cell_of X1 6
  have c7 : w1.cell? ⟨P, 7, none⟩ = _ := cell_of X1 7
  have c8 : w1.cell? ⟨P, 8, none⟩ = _ := cell_of X1 8
  have c9 : w1.cell? ⟨P, 9, none⟩ = _ := cell_of X1 9
  have c10 : w1.cell? ⟨P, 10, none⟩ = _ := cell_of X1 10
  have t0 : ¬ ((E : Int) = 0) := by omega
  have u0 : ((E : Int) != 0) = true := by simpa using t0
  clear hw1 hP B1 X1 hE h1 h2 h3 h4 h5 h6 ha hb hk hf
  go_enter Tryz.func8, Tryz.ntmps8
  go_upto_region 1 with fail
  rw [← HW1.out, ← HP.out]
  go_wp2_with fail
  refine (HOP.out w1).mono ?_
  rintro e w2 ⟨rfl, B2⟩
  have HB2 := keepH (below_chain HB1.out B2)
  clear B2 c0 c1 c2 c3 c4 c5 c6 c7 c8 c9 c10
  go_wp2_with fail
  go_ret2
  exact ⟨by simp, HB2.out⟩
theorem dPrintOp_any (k key val old hnd : Nat) (set : Bool) (rt ri : Int) (kp : Option Addr) (kc lo hi : Nat) (keys : List Nat) (hk : k < 256) (h1 : isU key) (h2 : isU val) (h3 : isU old) (h4 : isU hnd) (h5 : isU lo) (h6 : isU hi) (ha : isI rt) (hb : isI ri) (hks : ∀ u ∈ keys, isU u) (hkl : keys.length ≤ 10000000) (W : World) (T : Tb W) (hK : KRd W kp keys) :
    Calls Tryz.prog 8 #[.agg (opR k key val old hnd set rt ri (.slice kp keys.length kc) lo hi)] W fun e W' => ∃ E : Nat, E = faultN k key val old hnd set rt ri kp keys.length kc lo hi ∧ e = .returned (.tuple #[.string (mkS (if E = 0 then opT k key val old hnd set rt ri keys lo hi else [])), .int .i64 (E : Int)]) ∧ Below W.heap.size W W' := by
  by_cases hf : faultN k key val old hnd set rt ri kp keys.length kc lo hi = 0
  · have hh := fault_has hf
    have go : Calls Tryz.prog 8 #[.agg (opR k key val old hnd set rt ri (.slice kp keys.length kc) lo hi)] W fun e W' => e = .returned (.tuple #[.string (mkS (opT k key val old hnd set rt ri keys lo hi)), .int .i64 0]) ∧ Below W.heap.size W W' := by
      have : k = 1 ∨ k = 2 ∨ k = 3 ∨ k = 4 ∨ k = 5 ∨ k = 6 ∨ k = 7 ∨ k = 8 ∨ k = 9 ∨ k = 10 := by simp [hasK] at hh; omega
      rcases this with rfl | rfl | rfl | rfl | rfl | rfl | rfl | rfl | rfl | rfl
      · exact dPrint_1 key val old hnd set rt ri kp kc lo hi keys h1 h2 h3 h4 h5 h6 ha hb hf W T
      · exact dPrint_2 key val old hnd set rt ri kp kc lo hi keys h1 h2 h3 h4 h5 h6 ha hb hf W T
      · exact dPrint_3 key val old hnd set rt ri kp kc lo hi keys h1 h2 h3 h4 h5 h6 ha hb hf W T
      · exact dPrint_4 key val old hnd set rt ri kp kc lo hi keys h1 h2 h3 h4 h5 h6 ha hb hf W T
      · exact dPrint_5 key val old hnd set rt ri kp kc lo hi keys h1 h2 h3 h4 h5 h6 ha hb hf W T
      · cases set with
        | true => exact dPrint_6t key val old hnd rt ri kp kc lo hi keys h1 h2 h3 h4 h5 h6 ha hb hf W T
        | false => exact dPrint_6f key val old hnd rt ri kp kc lo hi keys h1 h2 h3 h4 h5 h6 ha hb hf W T
      · cases set with
        | true => exact dPrint_7t key val old hnd rt ri kp kc lo hi keys h1 h2 h3 h4 h5 h6 ha hb hks hkl hf W T hK
        | false => exact dPrint_7f key val old hnd rt ri kp kc lo hi keys h1 h2 h3 h4 h5 h6 ha hb hks hkl hf W T hK
      · cases set with
        | true => exact dPrint_8t key val old hnd rt ri kp kc lo hi keys h1 h2 h3 h4 h5 h6 ha hb hf W T
        | false => exact dPrint_8f key val old hnd rt ri kp kc lo hi keys h1 h2 h3 h4 h5 h6 ha hb hf W T
      · cases set with
        | true => exact dPrint_9t key val old hnd rt ri kp kc lo hi keys h1 h2 h3 h4 h5 h6 ha hb hf W T
        | false => exact dPrint_9f key val old hnd rt ri kp kc lo hi keys h1 h2 h3 h4 h5 h6 ha hb hf W T
      · exact dPrint_10 key val old hnd set rt ri kp kc lo hi keys h1 h2 h3 h4 h5 h6 ha hb hf W T
    refine go.mono ?_
    rintro e W' ⟨rfl, hB⟩
    exact ⟨0, hf.symm, by simp, hB⟩
  · refine (dPrint_err k key val old hnd set rt ri kp keys.length kc lo hi hk h1 h2 h3 h4 h5 h6 ha hb hf W).mono ?_
    rintro e W' ⟨rfl, hB⟩
    exact ⟨_, rfl, by rw [if_neg hf], hB⟩
end Go.Proofs.YtmmaniolaljjlaaGreatDoor
/- A script as lines, by the document; one that is not right, by both. (mkSeq.py) -/
namespace Go.Proofs.YtmmaniolaljjlaaGreatDoor
open Go.RowKit Go.Shelf
set_option linter.unusedVariables false

set_option maxRecDepth 100000 in
set_option maxHeartbeats 4000000 in
theorem sPrint_no (ce sl : Int) (stp : Nat) (mu : Int) (tp : Option Addr) (tc : Nat) (pp : Option Addr) (pc : Nat) (ts : List (List Opx)) (ps : List Int) (hS : SOk ts ps) (W : World) (hT : TRd W tp ts) (hW : Wd W) (hr : rtS ce sl stp mu ts ps ≠ 0) :
    Calls Tryz.prog 16 #[.agg (scR ce sl stp mu (.slice tp ts.length tc) (.slice pp ps.length pc))] W fun e W' => e = .returned (.tuple #[.string ⟨#[]⟩, .int .i64 (rtS ce sl stp mu ts ps : Int)]) ∧ Below W.heap.size W W' := by
  obtain ⟨V, hV⟩ : ∃ V, V = rtS ce sl stp mu ts ps := ⟨_, rfl⟩
  rw [← hV] at hr ⊢
  obtain ⟨w1, hw1⟩ : ∃ w1, w1 = W.alloc (.cells (scR ce sl stp mu (.slice tp ts.length tc) (.slice pp ps.length pc)) 46) := ⟨_, rfl⟩
  obtain ⟨P, hPP⟩ : ∃ P, P = W.heap.size := ⟨_, rfl⟩
  have B1 : Below W.heap.size W w1 := by rw [hw1]; exact below_alloc _ _
  have hRT := sRight_any ce sl stp mu tp tc pp pc ts ps hS w1 (hT.on B1) (hW.on B1)
  rw [← hV] at hRT
  have HX1 : Hid (w1.heap[P]? = some (.cells (scR ce sl stp mu (.slice tp ts.length tc) (.slice pp ps.length pc)) 46 (0, 0))) := keepH (by rw [hw1, hPP]; exact heap_alloc_new _ _)
  obtain ⟨n, hn⟩ : ∃ n, n = ts.length := ⟨_, rfl⟩
  obtain ⟨m, hm⟩ : ∃ m, m = ps.length := ⟨_, rfl⟩
  rw [← hn, ← hm] at hRT HX1 hw1 ⊢
  have HRT := keepH hRT
  have HW1 := keepH hw1
  have HP := keepH hPP
  have HB1 := keepH B1
  have q0 : ((V : Int) != 0) = true := by simp; omega
  have q1 : ¬ (V : Int) = 0 := by omega
  have d0 : w1.cell? ⟨P, 0, none⟩ = _ := cell_of HX1.out 0
  have d1 : w1.cell? ⟨P, 1, none⟩ = _ := cell_of HX1.out 1
  have d2 : w1.cell? ⟨P, 2, none⟩ = _ := cell_of HX1.out 2
  have d3 : w1.cell? ⟨P, 3, none⟩ = _ := cell_of HX1.out 3
  have d4 : w1.cell? ⟨P, 4, none⟩ = _ := cell_of HX1.out 4
  have d5 : w1.cell? ⟨P, 5, none⟩ = _ := cell_of HX1.out 5
  clear hV hw1 hPP B1 hRT hn hm hS hT hW hr
  go_enter Tryz.func16, Tryz.ntmps16
  go_upto_region 1 with fail
  rw [← HW1.out, ← HP.out]
  go_wp2_with fail
  refine HRT.out.mono ?_
  rintro e w2 ⟨rfl, B2⟩
  have HB2 := keepH (below_chain HB1.out B2)
  clear B2 d0 d1 d2 d3 d4 d5
  go_wp2_with fail
  go_ret2
  exact ⟨rfl, HB2.out⟩
set_option maxRecDepth 100000 in
set_option maxHeartbeats 4000000 in
theorem dPrint_no (ce sl : Int) (stp : Nat) (mu : Int) (tp : Option Addr) (tc : Nat) (pp : Option Addr) (pc : Nat) (ts : List (List Opx)) (ps : List Int) (hS : SOk ts ps) (W : World) (hT : TRd W tp ts) (hW : Wd W) (hr : rtS ce sl stp mu ts ps ≠ 0) :
    Calls Tryz.prog 17 #[.agg (scR ce sl stp mu (.slice tp ts.length tc) (.slice pp ps.length pc))] W fun e W' => e = .returned (.tuple #[.string ⟨#[]⟩, .int .i64 (rtS ce sl stp mu ts ps : Int)]) ∧ Below W.heap.size W W' := by
  obtain ⟨V, hV⟩ : ∃ V, V = rtS ce sl stp mu ts ps := ⟨_, rfl⟩
  rw [← hV] at hr ⊢
  obtain ⟨w1, hw1⟩ : ∃ w1, w1 = W.alloc (.cells (scR ce sl stp mu (.slice tp ts.length tc) (.slice pp ps.length pc)) 46) := ⟨_, rfl⟩
  obtain ⟨P, hPP⟩ : ∃ P, P = W.heap.size := ⟨_, rfl⟩
  have B1 : Below W.heap.size W w1 := by rw [hw1]; exact below_alloc _ _
  have hRT := dRight_any ce sl stp mu tp tc pp pc ts ps hS w1 (hT.on B1)
  rw [← hV] at hRT
  have HX1 : Hid (w1.heap[P]? = some (.cells (scR ce sl stp mu (.slice tp ts.length tc) (.slice pp ps.length pc)) 46 (0, 0))) := keepH (by rw [hw1, hPP]; exact heap_alloc_new _ _)
  obtain ⟨n, hn⟩ : ∃ n, n = ts.length := ⟨_, rfl⟩
  obtain ⟨m, hm⟩ : ∃ m, m = ps.length := ⟨_, rfl⟩
  rw [← hn, ← hm] at hRT HX1 hw1 ⊢
  have HRT := keepH hRT
  have HW1 := keepH hw1
  have HP := keepH hPP
  have HB1 := keepH B1
  have q0 : ((V : Int) != 0) = true := by simp; omega
  have q1 : ¬ (V : Int) = 0 := by omega
  have d0 : w1.cell? ⟨P, 0, none⟩ = _ := cell_of HX1.out 0
  have d1 : w1.cell? ⟨P, 1, none⟩ = _ := cell_of HX1.out 1
  have d2 : w1.cell? ⟨P, 2, none⟩ = _ := cell_of HX1.out 2
  have d3 : w1.cell? ⟨P, 3, none⟩ = _ := cell_of HX1.out 3
  have d4 : w1.cell? ⟨P, 4, none⟩ = _ := cell_of HX1.out 4
  have d5 : w1.cell? ⟨P, 5, none⟩ = _ := cell_of HX1.out 5
  clear hV hw1 hPP B1 hRT hn hm hS hT hW hr
  go_enter Tryz.func17, Tryz.ntmps17
  go_upto_region 1 with fail
  rw [← HW1.out, ← HP.out]
  go_wp2_with fail
  refine HRT.out.mono ?_
  rintro e w2 ⟨rfl, B2⟩
  have HB2 := keepH (below_chain HB1.out B2)
  clear B2 d0 d1 d2 d3 d4 d5
  go_wp2_with fail
  go_ret2
  exact ⟨rfl, HB2.out⟩
theorem sli_mid (n c i k bk off : Nat) (hi : i ≤ k) (hk : k ≤ n) (hcap : n ≤ c) (hic : i < c) : ∀ w, (Instr.slice 44 (.slice (some ⟨bk, off, none⟩) n c) (some (.int .i64 (i : Int))) (some (.int .i64 (k : Int))) none).run Tryz.prog w = .ok (.slice (some ⟨bk, off + i, none⟩) (k - i) (c - i)) w := by
  intro w
  have e : ¬ c = i := by omega
  have hb := run_sliceBound (P := Tryz.prog) (w := w) .i64 (k : Int) c .sliceAcap (by omega) (by omega)
  have hb2 := run_sliceBound (P := Tryz.prog) (w := w) .i64 (i : Int) k .sliceB (by omega) (by omega)
  simp [Instr.slice, run_underlying Tryz.underlying44, Instr.sliceBounds, Result.andThen, e, hb, hb2, Addr.add]
  try (unfold Addr.add; split <;> simp_all)
set_option maxRecDepth 100000 in
set_option maxHeartbeats 8000000 in
theorem dPrint_yes (ce sl : Int) (stp : Nat) (mu : Int) (h1 : isI ce) (h2 : isI sl) (h3 : isU stp) (h4 : isI mu) (tp : Option Addr) (tc : Nat) (pp : Option Addr) (pc : Nat) (ts : List (List Opx)) (ps : List Int) (hS : SOk ts ps) (hpc : ps.length ≤ pc) (hlen : (texS ce sl stp mu ts ps).length ≤ 100000000000) (W : World) (hT : TRd W tp ts) (hP : IRd W pp ps) (hW : Wd W) (T : Tb W) (hr : rtS ce sl stp mu ts ps = 0) :
    Calls Tryz.prog 17 #[.agg (scR ce sl stp mu (.slice tp ts.length tc) (.slice pp ps.length pc))] W fun e W' => e = .returned (.tuple #[.string (mkS (texS ce sl stp mu ts ps)), .int .i64 0]) ∧ Below W.heap.size W W' := by
  have hall := rt0_all hr
  obtain ⟨tx, htx⟩ : ∃ tx, tx = texS ce sl stp mu ts ps := ⟨_, rfl⟩
  rw [← htx] at hlen ⊢
  obtain ⟨w1, hw1⟩ : ∃ w1, w1 = W.alloc (.cells (scR ce sl stp mu (.slice tp ts.length tc) (.slice pp ps.length pc)) 46) := ⟨_, rfl⟩
  obtain ⟨P, hPP⟩ : ∃ P, P = W.heap.size := ⟨_, rfl⟩
  have B1 : Below W.heap.size W w1 := by rw [hw1]; exact below_alloc _ _
  have hRT := dRight_any ce sl stp mu tp tc pp pc ts ps hS w1 (hT.on B1)
  rw [hr] at hRT
  have HX1 : Hid (w1.heap[P]? = some (.cells (scR ce sl stp mu (.slice tp ts.length tc) (.slice pp ps.length pc)) 46 (0, 0))) := keepH (by rw [hw1, hPP]; exact heap_alloc_new _ _)
  obtain ⟨n, hn⟩ : ∃ n, n = ts.length := ⟨_, rfl⟩
  obtain ⟨m, hm⟩ : ∃ m, m = ps.length := ⟨_, rfl⟩
  have hn1 := hS.tl
  have hm1 := hS.pl
  rw [← hn, ← hm] at hRT HX1 hw1 ⊢
  rw [← hn] at hn1
  rw [← hm] at hm1 hpc
  have HP4 : Hid (∀ w, Below w1.heap.size w1 w → w.cell? ⟨P, 4, none⟩ = some (.slice tp n tc)) := keepH (fun w hb => cell_below (cell_of HX1.out 4) hb)
  have HP5 : Hid (∀ w, Below w1.heap.size w1 w → w.cell? ⟨P, 5, none⟩ = some (.slice pp m pc)) := keepH (fun w hb => cell_below (cell_of HX1.out 5) hb)
  have l1 := cfT_len h1 h2 h3 h4
  have HCF := keepH (fun w (hb : Below W.heap.size W w) => dConfig_any ce sl stp mu h1 h2 h3 h4 w (T.on hb))
  have k1 := add_str (cfT ce sl stp mu) [10] (by simp; omega)
  obtain ⟨scf, hscf⟩ : ∃ s, s = mkS (cfT ce sl stp mu) := ⟨_, rfl⟩
  obtain ⟨sc1, hsc1⟩ : ∃ s, s = mkS (cfT ce sl stp mu ++ [10]) := ⟨_, rfl⟩
  rw [← hscf, show mkS [10] = ⟨#[10]⟩ from rfl, ← hsc1] at k1
  rw [← hscf] at HCF
  have HSC1 := keepH hsc1
  have HTX : Hid (tx = (cfT ce sl stp mu ++ [10]) ++ (thsT ts ++ pksT ps)) := keepH htx
  have HLEN := keepH hlen
  have HRT := keepH hRT
  have HW1 := keepH hw1
  have HP := keepH hPP
  have HB1 := keepH B1
  have HN := keepH hn
  have HM := keepH hm
  have HS := keepH hS
  have HALL := keepH hall
  have HT := keepH hT
  have HIP := keepH hP
  have HTB := keepH T
  have d0 : w1.cell? ⟨P, 0, none⟩ = _ := cell_of HX1.out 0
  have d1 : w1.cell? ⟨P, 1, none⟩ = _ := cell_of HX1.out 1
  have d2 : w1.cell? ⟨P, 2, none⟩ = _ := cell_of HX1.out 2
  have d3 : w1.cell? ⟨P, 3, none⟩ = _ := cell_of HX1.out 3
  have d4 : w1.cell? ⟨P, 4, none⟩ = _ := cell_of HX1.out 4
  have d5 : w1.cell? ⟨P, 5, none⟩ = _ := cell_of HX1.out 5
  clear htx hlen hw1 hPP B1 hRT hn hm l1 hscf hsc1 hS hT hP hW T hall hr h1 h2 h3 h4
  go_enter Tryz.func17, Tryz.ntmps17
  go_upto_region 1 with fail
  rw [← HW1.out, ← HP.out]
  go_wp2_with fail
  refine HRT.out.mono ?_
  rintro e w2 ⟨rfl, B2⟩
  have HB2 := keepH B2
  have HX2 := keepH (heap_below HX1.out B2)
  clear B2 d0 d1 d2 d3 d4 d5 HRT
  have d0 : w2.cell? ⟨P, 0, none⟩ = _ := cell_of HX2.out 0
  have d1 : w2.cell? ⟨P, 1, none⟩ = _ := cell_of HX2.out 1
  have d2 : w2.cell? ⟨P, 2, none⟩ = _ := cell_of HX2.out 2
  have d3 : w2.cell? ⟨P, 3, none⟩ = _ := cell_of HX2.out 3
  have d4 : w2.cell? ⟨P, 4, none⟩ = _ := cell_of HX2.out 4
  have d5 : w2.cell? ⟨P, 5, none⟩ = _ := cell_of HX2.out 5
  have HC2 := keepH (HCF.out w2 (below_chain HB1.out HB2.out))
  go_wp2_with fail
  refine HC2.out.mono ?_
  rintro e w3 ⟨rfl, B3⟩
  have HB3 := keepH (below_chain HB2.out B3)
  clear B3 d0 d1 d2 d3 d4 d5 HC2 HX2 HB2
  go_wp2_with fail
  go_loopw [5, 6, 7, 8, 9] (fun s5 s6 s7 s8 s9 wr => ∃ (i : Nat) (u : ByteArray), i ≤ n ∧ s6 = .int .i64 (i : Int) ∧ s5 = .string u ∧ Hid (Below w1.heap.size w1 wr ∧ ∃ t, u = mkS t ∧ t ++ (thsT (ts.drop i) ++ pksT ps) = tx)) (fun _ s6 _ _ _ _ => n - (intOf s6).toNat)
  case atStart => exact ⟨0, sc1, by omega, rfl, rfl, keepH ⟨HB3.out, _, HSC1.out, by rw [HTX.out, List.drop_zero]⟩⟩
  case round =>
    clear HB3
    obtain ⟨i, u, hi, rfl, rfl, HI⟩ := hrel
    obtain ⟨hbw, t, hu, hte⟩ := HI.out
    have HBW := keepH hbw
    have HU := keepH hu
    have HTE := keepH hte
    clear hbw hu hte HI
    have p4 := HP4.out wr HBW.out
    by_cases hlt : i < n
    · have q1 : (i : Int) < (n : Int) := by omega
      have q0 : (0 : Int) ≤ (i : Int) := by omega
      obtain ⟨l, hl⟩ : ∃ l, ts[i]? = some l := ⟨ts[i]'(by have := HN.out; omega), List.getElem?_eq_getElem _⟩
      obtain ⟨bk, off, lp, lc, rfl, hbk, hO, c0⟩ := (HT.out.on (below_chain HB1.out HBW.out)).get i l hl
      obtain ⟨k, hk⟩ : ∃ k, k = l.length := ⟨_, rfl⟩
      have hk1 := HS.out.ll l (List.mem_of_getElem? hl)
      rw [← hk] at c0 hk1
      have HX := keepH hl
      have HK := keepH hk
      have HO := keepH hO
      have hte2 : t ++ ((thW ++ [10]) ++ (opsT l ++ (thsT (ts.drop (i + 1)) ++ pksT ps))) = tx := by rw [← HTE.out, drop_at hl, thsT_cons, thT]; simp
      have k2 := add_str t (thW ++ [10]) (by have h1 := pre_len hte2; have h2 := HLEN.out; simp [thW]; omega)
      obtain ⟨u2, hu2⟩ : ∃ s, s = mkS (t ++ (thW ++ [10])) := ⟨_, rfl⟩
      rw [← HU.out, show mkS (thW ++ [10]) = ⟨#[116, 104, 114, 101, 97, 100, 10]⟩ from rfl, ← hu2] at k2
      have HU2 := keepH hu2
      have HTE2 := keepH hte2
      obtain ⟨wo, hwo⟩ : ∃ wo, wo = wr := ⟨_, rfl⟩
      subst hwo
      have HC0 : Hid (∀ w, Below wo.heap.size wo w → w.cell? ⟨bk, off + i, none⟩ = some (.slice lp k lc)) := keepH (fun w hb => cell_below c0 hb)
      clear hl hk hbk hO hu2 hte2
      go_wp2_with fail
      go_loopw [5, 7, 8, 9] (fun s5 s7 s8 s9 wr => ∃ (j : Nat) (u : ByteArray), j ≤ k ∧ s7 = .int .i64 (j : Int) ∧ s5 = .string u ∧ Hid (Below wo.heap.size wo wr ∧ ∃ t, u = mkS t ∧ t ++ (opsT (l.drop j) ++ (thsT (ts.drop (i + 1)) ++ pksT ps)) = tx)) (fun _ s7 _ _ _ => k - (intOf s7).toNat)
      case atStart => exact ⟨0, u2, by omega, rfl, rfl, keepH ⟨Below.refl _ _, _, HU2.out, by rw [← HTE2.out, List.drop_zero]; simp⟩⟩
      case round =>
        clear p4 c0 HTE2 HU2 k2
        obtain ⟨j, u3, hj, rfl, rfl, HI⟩ := hrel
        obtain ⟨hbx, t2, hu3, hte⟩ := HI.out
        have HBX := keepH hbx
        have HU3 := keepH hu3
        have HTE3 := keepH hte
        clear hbx hu3 hte HI
        have p4 := HP4.out wr (below_chain HBW.out HBX.out)
        have c0 := HC0.out wr HBX.out
        by_cases hlj : j < k
        · have r1 : (j : Int) < (k : Int) := by omega
          have r0 : (0 : Int) ≤ (j : Int) := by omega
          obtain ⟨o, ho⟩ : ∃ o, l[j]? = some o := ⟨l[j]'(by have := HK.out; omega), List.getElem?_eq_getElem _⟩
          obtain ⟨bk2, off2, kp, kc, rfl, hbk2, hKR, a0, a1, a2, a3, a4, a5, a6, a7, a8, a9, a10⟩ := (HO.out.on HBX.out).get j o ho
          have hoo := HS.out.ok l (List.mem_of_getElem? HX.out) o (List.mem_of_getElem? ho)
          have hof := HALL.out l (List.mem_of_getElem? HX.out) o (List.mem_of_getElem? ho)
          have hte2 : t2 ++ ((textO o ++ [10]) ++ (opsT (l.drop (j + 1)) ++ (thsT (ts.drop (i + 1)) ++ pksT ps))) = tx := by rw [← HTE3.out, drop_at ho, opsT_cons]; simp
          have hle : t2.length ≤ 100000000000 ∧ (textO o).length ≤ 100000000000 := by
            have h1 := pre_len hte2
            have h2 := HLEN.out
            simp at h1
            omega
          obtain ⟨ok, key, val, old, hnd, set, rt, ri, keys, lo, hi2⟩ := o
          simp only at a0 a1 a2 a3 a4 a5 a6 a7 a8 a9 a10 hKR
          have hpr : Calls Tryz.prog 8 #[.agg (opR ok key val old hnd set rt ri (.slice kp keys.length kc) lo hi2)] wr fun e W' => e = .returned (.tuple #[.string (mkS (textO ⟨ok, key, val, old, hnd, set, rt, ri, keys, lo, hi2⟩)), .int .i64 0]) ∧ Below wr.heap.size wr W' := by
            refine (dPrintOp_any ok key val old hnd set rt ri kp kc lo hi2 keys hoo.1.k hoo.1.key hoo.1.val hoo.1.old hoo.1.hnd hoo.1.lo hoo.1.hi hoo.1.rt hoo.1.ri hoo.1.keys hoo.2 wr (HTB.out.on (below_chain (below_chain HB1.out HBW.out) HBX.out)) hKR).mono ?_
            rintro e W' ⟨E, hE, rfl, hb⟩
            have hE0 : E = 0 := hE.trans hof
            subst hE0
            exact ⟨rfl, hb⟩
          obtain ⟨nk, hnk⟩ : ∃ nk, nk = keys.length := ⟨_, rfl⟩
          rw [← hnk] at a8 hpr
          obtain ⟨tq, htq⟩ : ∃ tq, tq = textO ⟨ok, key, val, old, hnd, set, rt, ri, keys, lo, hi2⟩ := ⟨_, rfl⟩
          rw [← htq] at hpr hte2 hle
          have k3 := add_str tq [10] (by have := hle; simp; omega)
          have k4 := add_str t2 (tq ++ [10]) (by have := hle; simp; omega)
          obtain ⟨so, hso⟩ : ∃ s, s = mkS tq := ⟨_, rfl⟩
          obtain ⟨so2, hso2⟩ : ∃ s, s = mkS (tq ++ [10]) := ⟨_, rfl⟩
          obtain ⟨u4, hu4⟩ : ∃ s, s = mkS (t2 ++ (tq ++ [10])) := ⟨_, rfl⟩
          rw [← hso, show mkS [10] = ⟨#[10]⟩ from rfl, ← hso2] at k3
          rw [← HU3.out, ← hso2, ← hu4] at k4
          rw [← hso] at hpr
          have HPR := keepH hpr
          have HU4 := keepH hu4
          have HTE4 := keepH hte2
          clear ho hKR hbk2 hnk hoo hof hte2 hle hpr htq hso hso2 hu4
          go_wp2_with (first | (go_at_call 8; refine HPR.out.mono ?_; rintro e w8 ⟨rfl, B8⟩; have HB8 := keepH (below_chain HBX.out B8); clear B8) | go_in)
          go_roundw
          case rel => exact ⟨j + 1, u4, by omega, by first | rfl | go_num, rfl, keepH ⟨HB8.out, _, HU4.out, by rw [← HTE4.out]; simp⟩⟩
          case measure => simp [intOf]; omega
        · obtain rfl : j = k := by omega
          have r1 : ¬ (j : Int) < (j : Int) := by omega
          have HTE4 : Hid (t2 ++ (thsT (ts.drop (i + 1)) ++ pksT ps) = tx) := keepH (by rw [← HTE3.out, HK.out, List.drop_length]; simp [opsT])
          have HB8 := keepH (below_chain HBW.out HBX.out)
          go_wp2_with fail
          go_roundw
          case rel => exact ⟨i + 1, u3, by omega, by first | rfl | go_num, rfl, keepH ⟨HB8.out, _, HU3.out, HTE4.out⟩⟩
          case measure => simp [intOf]; omega
    · obtain rfl : i = n := by omega
      have q1 : ¬ (i : Int) < (i : Int) := by omega
      have HTE2 : Hid (t ++ pksT ps = tx) := keepH (by rw [← HTE.out, HN.out, List.drop_length]; simp [thsT])
      clear HTE
      go_wp2_with fail
      go_loopw [5, 10, 11] (fun s5 s10 s11 wr => ∃ (j : Nat) (u : ByteArray), j ≤ m + 20 ∧ s10 = .int .i64 (j : Int) ∧ s5 = .string u ∧ Hid (Below w1.heap.size w1 wr ∧ ∃ t, u = mkS t ∧ t ++ pksT (ps.drop j) = tx)) (fun _ s10 _ _ => m + 20 - (intOf s10).toNat)
      case atStart => exact ⟨0, u, by omega, rfl, rfl, keepH ⟨HBW.out, _, HU.out, by rw [List.drop_zero]; exact HTE2.out⟩⟩
      case round =>
        clear p4 HTE2 HU HBW
        obtain ⟨j, u3, hj, rfl, rfl, HI⟩ := hrel
        obtain ⟨hbx, t2, hu3, hte⟩ := HI.out
        have HBX := keepH hbx
        have HU3 := keepH hu3
        have HTE3 := keepH hte
        clear hbx hu3 hte HI
        have p5 := HP5.out wr HBX.out
        by_cases hlj : j < m
        · have r1 : (j : Int) < (m : Int) := by omega
          have r0 : (0 : Int) ≤ (j : Int) := by omega
          obtain ⟨bk, off, hpp⟩ : ∃ bk off, pp = some ⟨bk, off, none⟩ := by
            rcases HIP.out with e | ⟨bk, off, e, _⟩
            · have := HM.out; rw [e] at this; simp at this; omega
            · exact ⟨bk, off, e⟩
          subst hpp
          have hne : ps.drop j ≠ [] := fun e => by have := congrArg List.length e; rw [List.length_drop, ← HM.out] at this; simp at this; omega
          have hte2 : t2 ++ ((pkT ((ps.drop j).take 20) ++ [10]) ++ pksT (ps.drop (j + 20))) = tx := by
            rw [← HTE3.out, pksT_step hne, List.drop_drop]
          obtain ⟨c, hc⟩ : ∃ c, c = min (m - j) 20 := ⟨_, rfl⟩
          have hsl := sli_mid m pc j (j + c) bk off (by omega) (by omega) hpc (by omega)
          rw [show j + c - j = c by omega] at hsl
          have hct : ((ps.drop j).take 20).length = c := by rw [List.length_take, List.length_drop, ← HM.out, hc]; omega
          have hpk := dPicks_any (some ⟨bk, off + j, none⟩) (pc - j) ((ps.drop j).take 20) (by rw [hct]; omega) (fun x hx => HS.out.pk x (List.mem_of_mem_drop (List.mem_of_mem_take hx))) wr (HTB.out.on (below_chain HB1.out HBX.out)) (((HIP.out.drop (off' := off + j) (fun _ => rfl)).take 20).on (below_chain HB1.out HBX.out))
          rw [hct] at hpk
          have hle : t2.length ≤ 100000000000 ∧ (pkT ((ps.drop j).take 20)).length ≤ 100000000000 := by
            have h1 := pre_len hte2
            have h2 := HLEN.out
            simp at h1
            omega
          obtain ⟨tq, htq⟩ : ∃ tq, tq = pkT ((ps.drop j).take 20) := ⟨_, rfl⟩
          rw [← htq] at hpk hte2 hle
          have k3 := add_str tq [10] (by have := hle; simp; omega)
          have k4 := add_str t2 (tq ++ [10]) (by have := hle; simp; omega)
          obtain ⟨so, hso⟩ : ∃ s, s = mkS tq := ⟨_, rfl⟩
          obtain ⟨so2, hso2⟩ : ∃ s, s = mkS (tq ++ [10]) := ⟨_, rfl⟩
          obtain ⟨u4, hu4⟩ : ∃ s, s = mkS (t2 ++ (tq ++ [10])) := ⟨_, rfl⟩
          rw [← hso, show mkS [10] = ⟨#[10]⟩ from rfl, ← hso2] at k3
          rw [← HU3.out, ← hso2, ← hu4] at k4
          rw [← hso] at hpk
          have HPK := keepH hpk
          have HU4 := keepH hu4
          have HTE4 := keepH hte2
          have hjc : ((j : Int) + (c : Int)) = ((j + c : Nat) : Int) := by omega
          by_cases h20 : j + 20 > m
          · have q2 : (j : Int) + 20 > (m : Int) := by omega
            obtain rfl : j + c = m := by omega
            clear hne hct hle htq hso hso2 hu4 hpk hte2 hc h20 hjc
            go_wp2_with (first | (go_at_call 45; refine HPK.out.mono ?_; rintro e w8 ⟨rfl, B8⟩; have HB8 := keepH (below_chain HBX.out B8); clear B8) | go_in)
            go_roundw
            case rel => exact ⟨j + 20, u4, by omega, by first | rfl | go_num, rfl, keepH ⟨HB8.out, _, HU4.out, by rw [← HTE4.out]; simp⟩⟩
            case measure => simp [intOf]; omega
          · have q2 : ¬ (j : Int) + 20 > (m : Int) := by omega
            have hc20 : c = 20 := by omega
            subst hc20
            rw [show ((j + 20 : Nat) : Int) = (j : Int) + 20 by omega] at hsl
            clear hne hct hle htq hso hso2 hu4 hpk hte2 hc h20 hjc
            go_wp2_with (first | (go_at_call 45; refine HPK.out.mono ?_; rintro e w8 ⟨rfl, B8⟩; have HB8 := keepH (below_chain HBX.out B8); clear B8) | go_in)
            go_roundw
            case rel => exact ⟨j + 20, u4, by omega, by first | rfl | go_num, rfl, keepH ⟨HB8.out, _, HU4.out, by rw [← HTE4.out]; simp⟩⟩
            case measure => simp [intOf]; omega
        · have r1 : ¬ (j : Int) < (m : Int) := by omega
          have HE : Hid (u3 = mkS tx) := keepH (by
            have := HTE3.out
            rw [List.drop_eq_nil_of_le (by rw [← HM.out]; omega), pksT_nil, List.append_nil] at this
            rw [HU3.out, this])
          have HB8 := keepH (below_chain HB1.out HBX.out)
          go_wp2_with fail
          go_ret2
          exact ⟨by rw [← HE.out]; rfl, HB8.out⟩
end Go.Proofs.YtmmaniolaljjlaaGreatDoor
/- Two operations that are the same, by the document. -/
namespace Go.Proofs.YtmmaniolaljjlaaGreatDoor
open Go.RowKit Go.Shelf
set_option linter.unusedVariables false

theorem ref_neq (s : Bool) (a b : Int) (ha : isI a) (hb : isI b) (w : World) :
    (binOp .neq 25 (refV s a b) (refV s a b)).run Tryz.prog w = .ok (.bool false) w := by
  have h := ref_eql s a b s a b ha hb ha hb w
  simp only [binOp, go_sem]
  simp [h, Result.andThen]
set_option maxRecDepth 100000 in
set_option maxHeartbeats 4000000 in
theorem sameOp_any (k key val old hnd : Nat) (set : Bool) (rt ri : Int) (kp kp' : Option Addr) (kc kc' lo hi : Nat) (keys : List Nat) (ha : isI rt) (hb : isI ri) (hl : keys.length ≤ 10000000) (W : World) (hK : KRd W kp keys) (hK' : KRd W kp' keys) :
    Calls Tryz.prog 12 #[.agg (opR k key val old hnd set rt ri (.slice kp keys.length kc) lo hi), .agg (opR k key val old hnd set rt ri (.slice kp' keys.length kc') lo hi)] W fun e W' => e = .returned (.bool true) ∧ Below W.heap.size W W' := by
  have hr := fun w => ref_neq set rt ri ha hb w
  obtain ⟨n, hn⟩ : ∃ n, n = keys.length := ⟨_, rfl⟩
  rw [← hn] at hl ⊢
  obtain ⟨w1, hw1⟩ : ∃ w1, w1 = W.alloc (.cells (opR k key val old hnd set rt ri (.slice kp n kc) lo hi) 28) := ⟨_, rfl⟩
  obtain ⟨P, hP⟩ : ∃ P, P = W.heap.size := ⟨_, rfl⟩
  have B1 : Below W.heap.size W w1 := by rw [hw1]; exact below_alloc _ _
  have X1 : w1.heap[P]? = some (.cells (opR k key val old hnd set rt ri (.slice kp n kc) lo hi) 28 (0, 0)) := by rw [hw1, hP]; exact heap_alloc_new _ _
  obtain ⟨w2, hw2⟩ : ∃ w2, w2 = w1.alloc (.cells (opR k key val old hnd set rt ri (.slice kp' n kc') lo hi) 28) := ⟨_, rfl⟩
  obtain ⟨Q, hQ⟩ : ∃ Q, Q = w1.heap.size := ⟨_, rfl⟩
  have B2 : Below w1.heap.size w1 w2 := by rw [hw2]; exact below_alloc _ _
  have X2 : w2.heap[Q]? = some (.cells (opR k key val old hnd set rt ri (.slice kp' n kc') lo hi) 28 (0, 0)) := by rw [hw2, hQ]; exact heap_alloc_new _ _
  have Y2 := heap_below X1 B2
  have hQ2 : Q = W.heap.size + 1 := by rw [hQ, hw1]; simp
  have HQ2 := keepH hQ2
  have HW2 : Hid (w2 = (W.alloc (.cells (opR k key val old hnd set rt ri (.slice kp n kc) lo hi) 28)).alloc (.cells (opR k key val old hnd set rt ri (.slice kp' n kc') lo hi) 28)) := keepH (by rw [hw2, hw1])
  have HP := keepH hP
  have HB2 := keepH (below_chain B1 B2)
  have HK := keepH (hK.on (below_chain B1 B2))
  have HK' := keepH (hK'.on (below_chain B1 B2))
  have HX2 := keepH X2
  have HY2 := keepH Y2
  have HN := keepH hn
  have p0 : w2.cell? ⟨P, 0, none⟩ = _ := cell_of Y2 0
  have p1 : w2.cell? ⟨P, 1, none⟩ = _ := cell_of Y2 1
  have p2 : w2.cell? ⟨P, 2, none⟩ = _ := cell_of Y2 2
  have p3 : w2.cell? ⟨P, 3, none⟩ = _ := cell_of Y2 3
  have p4 : w2.cell? ⟨P, 4, none⟩ = _ := cell_of Y2 4
  have p5 : w2.cell? ⟨P, 5, none⟩ = _ := cell_of Y2 5
  have p6 : w2.cell? ⟨P, 6, none⟩ = _ := cell_of Y2 6
  have p7 : w2.cell? ⟨P, 7, none⟩ = _ := cell_of Y2 7
  have p8 : w2.cell? ⟨P, 8, none⟩ = _ := cell_of Y2 8
  have p9 : w2.cell? ⟨P, 9, none⟩ = _ := cell_of Y2 9
  have p10 : w2.cell? ⟨P, 10, none⟩ = _ := cell_of Y2 10
  have q0 : w2.cell? ⟨Q, 0, none⟩ = _ := cell_of X2 0
  have q1 : w2.cell? ⟨Q, 1, none⟩ = _ := cell_of X2 1
  have q2 : w2.cell? ⟨Q, 2, none⟩ = _ := cell_of X2 2
  have q3 : w2.cell? ⟨Q, 3, none⟩ = _ := cell_of X2 3
  have q4 : w2.cell? ⟨Q, 4, none⟩ = _ := cell_of X2 4
  have q5 : w2.cell? ⟨Q, 5, none⟩ = _ := cell_of X2 5
  have q6 : w2.cell? ⟨Q, 6, none⟩ = _ := cell_of X2 6
  have q7 : w2.cell? ⟨Q, 7, none⟩ = _ := cell_of X2 7
  have q8 : w2.cell? ⟨Q, 8, none⟩ = _ := cell_of X2 8
  have q9 : w2.cell? ⟨Q, 9, none⟩ = _ := cell_of X2 9
  have q10 : w2.cell? ⟨Q, 10, none⟩ = _ := cell_of X2 10
  clear hw1 hP B1 X1 hw2 hQ B2 X2 Y2 hQ2 hn hK hK' ha hb
  go_enter Tryz.func12, Tryz.ntmps12
  go_upto_region 1 with fail
  rw [← HW2.out, ← HQ2.out, ← HP.out]
  go_wp2_with fail
  clear p0 p1 p2 p3 p4 p5 p6 p7 p9 p10 q0 q1 q2 q3 q4 q5 q6 q7 q9 q10 p8 q8 hr
  go_loopw [5] (fun s wr => ∃ i : Nat, i ≤ n ∧ s = .int .i64 (i : Int) ∧ Hid (Below w2.heap.size w2 wr)) (fun s _ => n - (intOf s).toNat)
  case atStart => exact ⟨0, by omega, rfl, keepH (Below.refl _ _)⟩
  case round =>
    obtain ⟨i, him, rfl, HR⟩ := hrel
    have p8 : wr.cell? ⟨P, 8, none⟩ = _ := cell_of (heap_below HY2.out HR.out) 8
    have q8 : wr.cell? ⟨Q, 8, none⟩ = _ := cell_of (heap_below HX2.out HR.out) 8
    by_cases hlt : i < n
    · have t1 : (i : Int) < (n : Int) := by omega
      have t0 : (0 : Int) ≤ (i : Int) := by omega
      obtain ⟨x, hx⟩ : ∃ x, keys[i]? = some x := ⟨keys[i]'(by have := HN.out; omega), List.getElem?_eq_getElem _⟩
      obtain ⟨bk, off, rfl, _, c0⟩ := (HK.out.on HR.out).get i x hx
      obtain ⟨bk', off', rfl, _, d0⟩ := (HK'.out.on HR.out).get i x hx
      obtain ⟨z, hz⟩ : ∃ z : Int, z = (x : Int) := ⟨_, rfl⟩
      rw [← hz] at c0 d0
      clear hx hz
      go_wp2_with fail
      go_quiet (fail)
      go_wp2_with fail
      go_roundw
      case rel => exact ⟨i + 1, by omega, by first | rfl | go_num, keepH (HR.out.trans ⟨rfl, rfl, rfl, Nat.le_refl _, fun _ _ => rfl⟩)⟩
      case measure => simp [intOf]; omega
    · obtain rfl : i = n := by omega
      have t1 : ¬ (i : Int) < (i : Int) := by omega
      go_wp2_with fail
      go_ret
      exact ⟨by simp, below_chain HB2.out HR.out⟩
end Go.Proofs.YtmmaniolaljjlaaGreatDoor
