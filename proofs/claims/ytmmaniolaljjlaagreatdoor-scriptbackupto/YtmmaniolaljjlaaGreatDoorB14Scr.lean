/- An operation that is read, by the program: the walk. (mkScr.py) -/
import Derived.Test.YtmmaniolaljjlaaGreatDoorB12Scq
namespace Go.Proofs.YtmmaniolaljjlaaGreatDoor
open Go.RowKit Go.Shelf
set_option linter.unusedVariables false

theorem chg_bel {W wr X : World} {P : Nat} (h : Below W.heap.size W wr) (hP : W.heap.size ≤ P) (hc : Chg (fun b => b = P) wr X) : Below W.heap.size W X :=
  ⟨hc.os.trans h.os, hc.tape.trans h.tape, hc.output.trans h.output, Nat.le_trans h.size hc.size, fun k hk => by
    have := h.size
    rw [hc.block k (by omega) (by omega)]
    exact h.block k hk⟩
theorem split_len (t : List UInt8) : (Lib.split t [32]).length ≤ t.length + 1 ∧ ∀ f ∈ Lib.split t [32], f.length ≤ t.length := by
  have h := join_split t
  generalize Lib.split t [32] = fs at h
  subst h
  induction fs with
  | nil => simp
  | cons a r ih =>
    cases r with
    | nil => simp [Lib.join_one]
    | cons b r =>
      rw [join_cc]
      simp only [List.length_append, List.length_cons, List.mem_cons] at ih ⊢
      refine ⟨by omega, fun f hf => ?_⟩
      rcases hf with rfl | hf
      · omega
      · have := ih.2 f hf
        omega
set_option maxRecDepth 100000 in
set_option maxHeartbeats 16000000 in
theorem parse_any (b : Nat) (t : List UInt8) (ht : t.length ≤ 5000000) (W : World) (hV : IsVoc W b) (hW : Wd W) (T : Tb W) :
    Calls Tryz.prog 31 #[.map (some b), .string (mkS t)] W (PaQ W t) := by
  obtain ⟨w1, hw1⟩ : ∃ w1, w1 = W.alloc (.cells (opR 0 0 0 0 0 false 0 0 (.slice none 0 0) 0 0) 28) := ⟨_, rfl⟩
  obtain ⟨R, hR⟩ : ∃ R, R = W.heap.size := ⟨_, rfl⟩
  have B1 : Below W.heap.size W w1 := by rw [hw1]; exact below_alloc _ _
  have X1 : w1.heap[R]? = some (.cells (opR 0 0 0 0 0 false 0 0 (.slice none 0 0) 0 0) 28 (0, 0)) := by rw [hw1, hR]; exact heap_alloc_new _ _
  have hsp := split_any t (by omega) w1 (T.on B1)
  obtain ⟨hsl, hse⟩ := split_len t
  obtain ⟨fs, hfs⟩ : ∃ fs, fs = Lib.split t [32] := ⟨_, rfl⟩
  have hne := split_ne t
  have HSP0 := keepH hfs.symm
  rw [← hfs] at hsp hsl hse hne
  obtain ⟨f0, r0, rfl⟩ : ∃ f0 r0, fs = f0 :: r0 := by
    cases fs with
    | nil => exact absurd rfl hne
    | cons a r => exact ⟨a, r, rfl⟩
  have HFL : Hid ((f0 :: r0).length ≤ 5000001) := keepH (by omega)
  have HFE : Hid (∀ f ∈ f0 :: r0, f.length ≤ 5000000) := keepH (fun f hf => by have := hse f hf; omega)
  obtain ⟨w2, hw2⟩ : ∃ w2, w2 = w1.alloc (.cells ((f0 :: r0).map (fun f => Value.string (mkS f))).toArray 9) := ⟨_, rfl⟩
  obtain ⟨S0, hS0⟩ : ∃ S0, S0 = w1.heap.size := ⟨_, rfl⟩
  have B2 : Below w1.heap.size w1 w2 := by rw [hw2]; exact below_alloc _ _
  have X2 : w2.heap[S0]? = some (.cells ((f0 :: r0).map (fun f => Value.string (mkS f))).toArray 9 (0, 0)) := by rw [hw2, hS0]; exact heap_alloc_new _ _
  have hst2 : ∀ (i : Nat) (f : List UInt8), (f0 :: r0)[i]? = some f → w2.cell? ⟨S0, 0 + i, none⟩ = some (.string (mkS f)) := fun i f hf => by
    rw [Nat.zero_add, cell_of X2 i]
    simp only [List.getElem?_toArray, List.getElem?_map, hf]
    rfl
  have HST2 := keepH hst2
  have hR1 := (Array.getElem?_eq_some_iff.1 X1).1
  have hX12 := heap_below X1 B2
  have HX2 := keepH hX12
  have HB2 := keepH (below_chain B1 B2)
  have HSL : Hid (S0 < w2.heap.size) := keepH (Array.getElem?_eq_some_iff.1 X2).1
  have HRS : Hid (R < w2.heap.size) := keepH (Array.getElem?_eq_some_iff.1 hX12).1
  have HKO := keepH (kindOf_any f0 w2 (hW.on (below_chain B1 B2)))
  have HWD := keepH (fun w (hb : Below W.heap.size W w) => And.intro (hV.on hb) (hW.on hb))
  have HNU := keepH (fun p c fs (hl : fs.length ≤ 200000000) (hf : ∀ f ∈ fs, f.length ≤ 200000000) w (hb : Below W.heap.size W w) (hr : SRd w p fs) => nums_u p c fs hl hf w (T.on hb) hr)
  have HRH := keepH (fun P k f (hf : f.length ≤ 10000000) w (hb : Below W.heap.size W w) hX => readH_any P k f hf w (T.on hb) hX)
  rw [← hS0, ← hw2] at hsp
  have HW1 := keepH hw1
  have HR := keepH hR
  have HLR : Hid (W.heap.size ≤ R) := keepH (by omega)
  have c0 : w2.cell? ⟨S0, 0, none⟩ = some (.string (mkS f0)) := hst2 0 f0 rfl
  obtain ⟨s0, hs0⟩ : ∃ s, s = mkS f0 := ⟨_, rfl⟩
  rw [← hs0] at c0 HKO
  obtain ⟨s, hs⟩ : ∃ s, s = mkS t := ⟨_, rfl⟩
  rw [← hs] at hsp ⊢
  obtain ⟨n, hn⟩ : ∃ n, n = r0.length := ⟨_, rfl⟩
  rw [show (f0 :: r0).length = n + 1 by rw [hn]; rfl] at hsp
  have HN := keepH hn
  have hn5 : n ≤ 5000000 := by rw [hn]; have := hsl; simp at this; omega
  clear hw1 hR B1 X1 hsl hse hfs hne hw2 hS0 B2 X2 hst2 hR1 hX12 hs0 hs hV hW T hn
  have HHSP := keepH hsp
  clear hsp
  go_enter Tryz.func31, Tryz.ntmps31
  go_upto_region 1 with fail
  rw [show W.alloc (.cells #[.int .u8 0, .int .u64 0, .int .u64 0, .int .u64 0, .int .u64 0, .bool false, .int .i64 0, .int .i64 0, .slice none 0 0, .int .u64 0, .int .u64 0] 28) = w1 from HW1.out.symm, ← HR.out]
  go_wp2_with fail
  refine HHSP.out.mono ?_
  rintro e wx ⟨rfl, hwx⟩
  rw [hwx]
  clear hwx
  have t0 : (0 : Int) < ((n + 1 : Nat) : Int) := by omega
  go_wp2_with fail
  refine HKO.out.mono ?_
  rintro e wx ⟨hkq, hwx⟩
  rw [hwx]
  clear hwx c0
  rcases hkq with ⟨k, hk, hf0, rfl⟩ | ⟨hno, rfl⟩
  · subst hf0
    have HHK := keepH hk
    obtain ⟨w3, hw3⟩ : ∃ w3, w3 = w2.alloc (.cells (opR k 0 0 0 0 false 0 0 (.slice none 0 0) 0 0) 28) := ⟨_, rfl⟩
    obtain ⟨P, hP⟩ : ∃ P, P = w2.heap.size := ⟨_, rfl⟩
    have B3 : Below w2.heap.size w2 w3 := by rw [hw3]; exact below_alloc _ _
    have X3 : w3.heap[P]? = some (.cells (opR k 0 0 0 0 false 0 0 (.slice none 0 0) 0 0) 28 (0, 0)) := by rw [hw3, hP]; exact heap_alloc_new _ _
    have hb3 := below_chain HB2.out B3
    have HFD := keepH (fields_any b P k (has_lt hk) w3 (HWD.out w3 hb3).1 (HWD.out w3 hb3).2 (cell_of X3 0) hk)
    have HW3 := keepH hw3
    have HP := keepH hP
    have HB3 := keepH B3
    have HX3 := keepH X3
    clear hw3 hP B3 X3 hb3 hk
    go_upto_region 6 with fail
    rw [show w2.alloc (.cells #[.int .u8 (k : Int), .int .u64 0, .int .u64 0, .int .u64 0, .int .u64 0, .bool false, .int .i64 0, .int .i64 0, .slice none 0 0, .int .u64 0, .int .u64 0] 28) = w3 from HW3.out.symm, ← HP.out]
    go_wp2_with fail
    refine HFD.out.mono ?_
    rintro e w4 ⟨pp, rfl, hnum, B4⟩
    obtain ⟨m, hm⟩ : ∃ m, m = (numK k).length := ⟨_, rfl⟩
    rw [← hm] at hnum ⊢
    obtain ⟨hd, hhd⟩ : ∃ d, d = hndK k := ⟨_, rfl⟩
    obtain ⟨kb, hkb⟩ : ∃ d, d = kysK k := ⟨_, rfl⟩
    rw [← hhd, ← hkb]
    obtain ⟨w5, hw5⟩ : ∃ w5, w5 = w4.alloc (.cells #[.bool hd, .slice pp m m, .bool kb] 113) := ⟨_, rfl⟩
    obtain ⟨F, hF⟩ : ∃ F, F = w4.heap.size := ⟨_, rfl⟩
    have B5 : Below w4.heap.size w4 w5 := by rw [hw5]; exact below_alloc _ _
    have S5 : PS W R P F (opR k 0 0 0 0 false 0 0 (.slice none 0 0) 0 0) #[.bool hd, .slice pp m m, .bool kb] (.slice pp m m) (numK k) S0 0 (opW k :: r0) w5 := by
      have hx := (Array.getElem?_eq_some_iff.1 HX3.out).1
      have hp := HP.out
      have h1 := HSL.out
      have h2 := HRS.out
      have b35 := below_chain HB3.out (below_chain B4 B5)
      refine ⟨heap_below HX2.out b35, heap_below (heap_below HX3.out B4) B5, by rw [hw5, hF]; exact heap_alloc_new _ _, ?_, fun i f hf => cell_below (HST2.out i f hf) b35, Nat.lt_of_lt_of_le h1 b35.size, below_chain HB2.out b35, ?_, HLR.out, ?_, ?_, ?_⟩
      · rcases hnum with h | ⟨g, q1, q2, q3⟩
        · exact .inl h
        · exact .inr ⟨g, q1, by omega, heap_below q3 B5⟩
      · have := HB2.out.size
        omega
      · omega
      · have := B4.size
        omega
      · omega
    have HS5 := keepH S5
    have HW5 := keepH hw5
    have HFF := keepH hF
    have HM := keepH hm
    have HHD := keepH hhd
    have HKB := keepH hkb
    clear hnum B4 B5 S5 hw5 hF hm hhd hkb
    go_upto_region 7 with fail
    rw [← HW5.out, ← HFF.out]
    have f0' : w5.cell? ⟨F, 0, none⟩ = some (.bool hd) := cell_of HS5.out.fl 0
    cases hd with
    | false =>
      have HHP : Hid (HPart k 0 false 0 0 []) := keepH (.inr ⟨HHD.out.symm, rfl, rfl, rfl, rfl, rfl⟩)
      have HSP : Hid (Lib.split t [32] = opW k :: ([] ++ r0)) := keepH HSP0.out
      by_cases hz : r0 = []
      · subst hz
        obtain rfl : n = 0 := HN.out
        have HS6 : Hid (PS W R P F (opR k 0 0 0 0 false 0 0 (.slice none 0 0) 0 0) #[.bool false, .slice pp m m, .bool kb] (.slice pp m m) (numK k) S0 0 [] w5) := keepH (HS5.out.cut (fun h => by simp at h))
        go_upto_region 12 with fail
        clear f0'
        have hnl : ([] : List (List UInt8)).length ≤ 10000000 := by have := HFL.out; simp only [List.length_cons] at this; omega
        have HQ0 := keepH (HNU.out (some ⟨S0, 0, none⟩) (0) ([] : List (List UInt8)) (by omega) (fun f hf => by have := HFE.out f (by simp [hf]); omega) w5 HS6.out.bel HS6.out.srd)
        have HQ : Hid (Calls Tryz.prog 77 #[.func (.func 78) #[] #[], .slice (some ⟨S0, 0, none⟩) 0 0] w5 (NumsStU w5 [])) := keepH HQ0.out
        have HPS := HS6
        have hPlt : P < w5.heap.size := (Array.getElem?_eq_some_iff.1 HS6.out.bx).1
        have hRlt : R < w5.heap.size := (Array.getElem?_eq_some_iff.1 HS6.out.rr).1
        have HPL := keepH hPlt
        have HRL := keepH hRlt
        clear hPlt hRlt HQ0
        go_wp2_with fail
        refine HQ.out.mono ?_
        rintro e w7 (⟨us, v, hmm, rfl, hst⟩ | ⟨hmm, rfl, B7⟩)
        · obtain ⟨lp, lc, rfl, hU⟩ := stu_form hst
          have HS7 := keepH (HPS.out.on hst.bel)
          have hul : us.length ≤ 10000000 := by rw [mapM_u_len hmm]; simp
          have HFI := keepH (fill_any P k 0 false 0 0 false pp lp us lc (by omega) w7 HS7.out.bx (by have hq := HS7.out.num; rw [← HM.out] at hq ⊢; exact hq) (hU.lst HPL.out))
          have HKU := keepH hU
          rw [← HM.out, ← HKB.out] at HFI
          have HMM := keepH hmm
          have f0 : w7.cell? ⟨F, 0, none⟩ = some (.bool false) := cell_of HS7.out.fl 0
          have f1 : w7.cell? ⟨F, 1, none⟩ = some (.slice pp m m) := cell_of HS7.out.fl 1
          have f2 : w7.cell? ⟨F, 2, none⟩ = some (.bool kb) := cell_of HS7.out.fl 2
          obtain ⟨ul, hul2⟩ : ∃ x, x = us.length := ⟨_, rfl⟩
          rw [← hul2] at HFI ⊢
          have HUL := keepH hul2
          clear hst hmm hul hU hul2
          go_wp2_with fail
          refine HFI.out.mono ?_
          rintro e w8 ⟨hC8, hcase⟩
          have HKU8 := keepH (HKU.out.chg HPL.out hC8)
          rcases hcase with ⟨hk, okf, hokf, rfl, hX8⟩ | ⟨hk, hlen, rfl, hX8⟩ | ⟨hk, hlen, rfl⟩
          · rw [← HUL.out] at hX8
            have HS8 := keepH (HS7.out.chg hC8 hX8)
            have HKK := keepH hk
            have HOKF := keepH hokf
            clear hk hC8 hX8 hokf f0 f1 f2
            cases okf with
            | true =>
              have d0 : w8.cell? ⟨P, 0, none⟩ = _ := cell_of HS8.out.bx 0
              have d1 : w8.cell? ⟨P, 1, none⟩ = _ := cell_of HS8.out.bx 1
              have d2 : w8.cell? ⟨P, 2, none⟩ = _ := cell_of HS8.out.bx 2
              have d3 : w8.cell? ⟨P, 3, none⟩ = _ := cell_of HS8.out.bx 3
              have d4 : w8.cell? ⟨P, 4, none⟩ = _ := cell_of HS8.out.bx 4
              have d5 : w8.cell? ⟨P, 5, none⟩ = _ := cell_of HS8.out.bx 5
              have d6 : w8.cell? ⟨P, 6, none⟩ = _ := cell_of HS8.out.bx 6
              have d7 : w8.cell? ⟨P, 7, none⟩ = _ := cell_of HS8.out.bx 7
              have d8 : w8.cell? ⟨P, 8, none⟩ = _ := cell_of HS8.out.bx 8
              have d9 : w8.cell? ⟨P, 9, none⟩ = _ := cell_of HS8.out.bx 9
              have d10 : w8.cell? ⟨P, 10, none⟩ = _ := cell_of HS8.out.bx 10
              go_wp2_with (first | (refine wpList_store_row rfl 28 _ _ rfl R (opR k 0 0 0 0 false 0 0 (.slice lp ul lc) 0 0) rfl rfl 28 (opR 0 0 0 0 0 false 0 0 (.slice none 0 0) 0 0) HS8.out.rr (by kernel_rfl) rfl (by simp [Value.oneCell']) ?_) | fail)
              have hfin := HS8.out.fin (opR k 0 0 0 0 false 0 0 (.slice lp ul lc) 0 0)
              have e0 := cell_of hfin.1 0
              have e1 := cell_of hfin.1 1
              have e2 := cell_of hfin.1 2
              have e3 := cell_of hfin.1 3
              have e4 := cell_of hfin.1 4
              have e5 := cell_of hfin.1 5
              have e6 := cell_of hfin.1 6
              have e7 := cell_of hfin.1 7
              have e8 := cell_of hfin.1 8
              have e9 := cell_of hfin.1 9
              have e10 := cell_of hfin.1 10
              simp at e0 e1 e2 e3 e4 e5 e6 e7 e8 e9 e10
              refine bodyPost_ret (v := .tuple #[.agg (opR k 0 0 0 0 false 0 0 (.slice lp ul lc) 0 0), .bool true]) (by simp [results, Tryz.results31, go_sem, e0, e1, e2, e3, e4, e5, e6, e7, e8, e9, e10]) rfl ?_
              exact ⟨true, ⟨k, 0, 0, 0, 0, false, 0, 0, us, 0, 0⟩, lp, lc, by rw [HUL.out]; rfl, yes_keys HHK.out HHP.out HSP.out HMM.out HKK.out (by have := HOKF.out; simp at this; exact this), (HKU8.out.row HRL.out _).mono HPS.out.bel.size, fun e => by simp at e, hfin.2⟩
            | false =>
              go_wp2_with (first | (refine wpList_store_row rfl 28 _ _ rfl R (opR 0 0 0 0 0 false 0 0 (.slice none 0 0) 0 0) rfl rfl 28 (opR 0 0 0 0 0 false 0 0 (.slice none 0 0) 0 0) HS8.out.rr (by kernel_rfl) rfl (by simp [Value.oneCell']) ?_) | fail)
              have hfin := HS8.out.fin (opR 0 0 0 0 0 false 0 0 (.slice none 0 0) 0 0)
              have e0 := cell_of hfin.1 0
              have e1 := cell_of hfin.1 1
              have e2 := cell_of hfin.1 2
              have e3 := cell_of hfin.1 3
              have e4 := cell_of hfin.1 4
              have e5 := cell_of hfin.1 5
              have e6 := cell_of hfin.1 6
              have e7 := cell_of hfin.1 7
              have e8 := cell_of hfin.1 8
              have e9 := cell_of hfin.1 9
              have e10 := cell_of hfin.1 10
              simp at e0 e1 e2 e3 e4 e5 e6 e7 e8 e9 e10
              refine bodyPost_ret (v := .tuple #[.agg (opR 0 0 0 0 0 false 0 0 (.slice none 0 0) 0 0), .bool false]) (by simp [results, Tryz.results31, go_sem, e0, e1, e2, e3, e4, e5, e6, e7, e8, e9, e10]) rfl ?_
              exact ⟨false, zeroO, none, 0, rfl, pq_no (no_keys HHK.out HHP.out HSP.out HMM.out HKK.out (by have := HOKF.out; simp at this; omega)), .inl rfl, fun _ => rfl, hfin.2⟩
          · have HS8 := keepH (HS7.out.chg hC8 hX8)
            have HKK := keepH hk
            have HLEN := keepH hlen
            clear hk hC8 hX8 hlen f0 f1 f2
            obtain ⟨x1, h1⟩ : ∃ x, x = fk k us 1 := ⟨_, rfl⟩
            obtain ⟨x2, h2⟩ : ∃ x, x = fk k us 2 := ⟨_, rfl⟩
            obtain ⟨x3, h3⟩ : ∃ x, x = fk k us 3 := ⟨_, rfl⟩
            obtain ⟨x9, h9⟩ : ∃ x, x = fk k us 9 := ⟨_, rfl⟩
            obtain ⟨x10, h10⟩ : ∃ x, x = fk k us 10 := ⟨_, rfl⟩
            have HYN := keepH (yes_nums HHK.out HHP.out HSP.out HMM.out HKK.out HLEN.out)
            rw [← h1, ← h2, ← h3, ← h9, ← h10] at HS8 HYN
            clear h1 h2 h3 h9 h10
            have d0 : w8.cell? ⟨P, 0, none⟩ = _ := cell_of HS8.out.bx 0
            have d1 : w8.cell? ⟨P, 1, none⟩ = _ := cell_of HS8.out.bx 1
            have d2 : w8.cell? ⟨P, 2, none⟩ = _ := cell_of HS8.out.bx 2
            have d3 : w8.cell? ⟨P, 3, none⟩ = _ := cell_of HS8.out.bx 3
            have d4 : w8.cell? ⟨P, 4, none⟩ = _ := cell_of HS8.out.bx 4
            have d5 : w8.cell? ⟨P, 5, none⟩ = _ := cell_of HS8.out.bx 5
            have d6 : w8.cell? ⟨P, 6, none⟩ = _ := cell_of HS8.out.bx 6
            have d7 : w8.cell? ⟨P, 7, none⟩ = _ := cell_of HS8.out.bx 7
            have d8 : w8.cell? ⟨P, 8, none⟩ = _ := cell_of HS8.out.bx 8
            have d9 : w8.cell? ⟨P, 9, none⟩ = _ := cell_of HS8.out.bx 9
            have d10 : w8.cell? ⟨P, 10, none⟩ = _ := cell_of HS8.out.bx 10
            go_wp2_with (first | (refine wpList_store_row rfl 28 _ _ rfl R (opR k x1 x2 x3 0 false 0 0 (.slice none 0 0) x9 x10) rfl rfl 28 (opR 0 0 0 0 0 false 0 0 (.slice none 0 0) 0 0) HS8.out.rr (by kernel_rfl) rfl (by simp [Value.oneCell']) ?_) | fail)
            have hfin := HS8.out.fin (opR k x1 x2 x3 0 false 0 0 (.slice none 0 0) x9 x10)
            have e0 := cell_of hfin.1 0
            have e1 := cell_of hfin.1 1
            have e2 := cell_of hfin.1 2
            have e3 := cell_of hfin.1 3
            have e4 := cell_of hfin.1 4
            have e5 := cell_of hfin.1 5
            have e6 := cell_of hfin.1 6
            have e7 := cell_of hfin.1 7
            have e8 := cell_of hfin.1 8
            have e9 := cell_of hfin.1 9
            have e10 := cell_of hfin.1 10
            simp at e0 e1 e2 e3 e4 e5 e6 e7 e8 e9 e10
            refine bodyPost_ret (v := .tuple #[.agg (opR k x1 x2 x3 0 false 0 0 (.slice none 0 0) x9 x10), .bool true]) (by simp [results, Tryz.results31, go_sem, e0, e1, e2, e3, e4, e5, e6, e7, e8, e9, e10]) rfl ?_
            exact ⟨true, ⟨k, x1, x2, x3, 0, false, 0, 0, [], x9, x10⟩, none, 0, rfl, HYN.out, .inl rfl, fun e => by simp at e, hfin.2⟩
          · have HRR8 : Hid (w8.heap[R]? = some (.cells (opR 0 0 0 0 0 false 0 0 (.slice none 0 0) 0 0) 28 (0, 0))) := keepH ((hC8.block R (Array.getElem?_eq_some_iff.1 HS7.out.rr).1 HS7.out.nr).trans HS7.out.rr)
            have HB8 : Hid (Below W.heap.size W w8) := keepH (chg_bel HS7.out.bel HS7.out.lo hC8)
            have HLR := keepH HS7.out.lr
            have HKK := keepH hk
            have HLEN := keepH hlen
            clear hk hC8 hlen f0 f1 f2
            go_wp2_with (first | (refine wpList_store_row rfl 28 _ _ rfl R (opR 0 0 0 0 0 false 0 0 (.slice none 0 0) 0 0) rfl rfl 28 (opR 0 0 0 0 0 false 0 0 (.slice none 0 0) 0 0) HRR8.out (by kernel_rfl) rfl (by simp [Value.oneCell']) ?_) | fail)
            have hrow := setRow_heap _ R _ (opR 0 0 0 0 0 false 0 0 (.slice none 0 0) 0 0) 28 (0, 0) HRR8.out
            have e0 := cell_of hrow 0
            have e1 := cell_of hrow 1
            have e2 := cell_of hrow 2
            have e3 := cell_of hrow 3
            have e4 := cell_of hrow 4
            have e5 := cell_of hrow 5
            have e6 := cell_of hrow 6
            have e7 := cell_of hrow 7
            have e8 := cell_of hrow 8
            have e9 := cell_of hrow 9
            have e10 := cell_of hrow 10
            simp at e0 e1 e2 e3 e4 e5 e6 e7 e8 e9 e10
            refine bodyPost_ret (v := .tuple #[.agg (opR 0 0 0 0 0 false 0 0 (.slice none 0 0) 0 0), .bool false]) (by simp [results, Tryz.results31, go_sem, e0, e1, e2, e3, e4, e5, e6, e7, e8, e9, e10]) rfl ?_
            exact ⟨false, zeroO, none, 0, rfl, pq_no (no_len HHK.out HHP.out HSP.out HMM.out HKK.out HLEN.out), .inl rfl, fun _ => rfl, below_setRow HB8.out HLR.out _⟩
        · have HS7 := keepH (HPS.out.on B7)
          have HMM := keepH hmm
          clear B7 hmm
          go_wp2_with (first | (refine wpList_store_row rfl 28 _ _ rfl R (opR 0 0 0 0 0 false 0 0 (.slice none 0 0) 0 0) rfl rfl 28 (opR 0 0 0 0 0 false 0 0 (.slice none 0 0) 0 0) HS7.out.rr (by kernel_rfl) rfl (by simp [Value.oneCell']) ?_) | fail)
          have hfin := HS7.out.fin (opR 0 0 0 0 0 false 0 0 (.slice none 0 0) 0 0)
          have e0 := cell_of hfin.1 0
          have e1 := cell_of hfin.1 1
          have e2 := cell_of hfin.1 2
          have e3 := cell_of hfin.1 3
          have e4 := cell_of hfin.1 4
          have e5 := cell_of hfin.1 5
          have e6 := cell_of hfin.1 6
          have e7 := cell_of hfin.1 7
          have e8 := cell_of hfin.1 8
          have e9 := cell_of hfin.1 9
          have e10 := cell_of hfin.1 10
          simp at e0 e1 e2 e3 e4 e5 e6 e7 e8 e9 e10
          refine bodyPost_ret (v := .tuple #[.agg (opR 0 0 0 0 0 false 0 0 (.slice none 0 0) 0 0), .bool false]) (by simp [results, Tryz.results31, go_sem, e0, e1, e2, e3, e4, e5, e6, e7, e8, e9, e10]) rfl ?_
          exact ⟨false, zeroO, none, 0, rfl, pq_no (no_nums HHK.out HHP.out HSP.out HMM.out), .inl rfl, fun _ => rfl, hfin.2⟩
      · have hnz : ¬ n = 0 := by
          rw [HN.out]
          intro e
          exact hz (List.eq_nil_of_length_eq_zero e)
        have HS6 : Hid (PS W R P F (opR k 0 0 0 0 false 0 0 (.slice none 0 0) 0 0) #[.bool false, .slice pp m m, .bool kb] (.slice pp m m) (numK k) S0 1 r0 w5) := keepH (HS5.out.cut (fun h => rfl))
        clear hz
        go_upto_region 12 with fail
        clear f0'
        rw [show n = r0.length from HN.out]
        have hnl : r0.length ≤ 10000000 := by have := HFL.out; simp only [List.length_cons] at this; omega
        have HQ0 := keepH (HNU.out (some ⟨S0, 1, none⟩) (r0.length) r0 (by omega) (fun f hf => by have := HFE.out f (by simp [hf]); omega) w5 HS6.out.bel HS6.out.srd)
        have HQ := HQ0
        obtain ⟨nn, hnn⟩ : ∃ x, x = r0.length := ⟨_, rfl⟩
        have HNN := keepH hnn
        rw [← hnn] at HQ hnl ⊢
        have HPS := HS6
        have hPlt : P < w5.heap.size := (Array.getElem?_eq_some_iff.1 HS6.out.bx).1
        have hRlt : R < w5.heap.size := (Array.getElem?_eq_some_iff.1 HS6.out.rr).1
        have HPL := keepH hPlt
        have HRL := keepH hRlt
        clear hnn hPlt hRlt HQ0
        go_wp2_with fail
        refine HQ.out.mono ?_
        rintro e w7 (⟨us, v, hmm, rfl, hst⟩ | ⟨hmm, rfl, B7⟩)
        · obtain ⟨lp, lc, rfl, hU⟩ := stu_form hst
          have HS7 := keepH (HPS.out.on hst.bel)
          have hul : us.length ≤ 10000000 := by rw [mapM_u_len hmm, ← HNN.out]; omega
          have HFI := keepH (fill_any P k 0 false 0 0 false pp lp us lc (by omega) w7 HS7.out.bx (by have hq := HS7.out.num; rw [← HM.out] at hq ⊢; exact hq) (hU.lst HPL.out))
          have HKU := keepH hU
          rw [← HM.out, ← HKB.out] at HFI
          have HMM := keepH hmm
          have f0 : w7.cell? ⟨F, 0, none⟩ = some (.bool false) := cell_of HS7.out.fl 0
          have f1 : w7.cell? ⟨F, 1, none⟩ = some (.slice pp m m) := cell_of HS7.out.fl 1
          have f2 : w7.cell? ⟨F, 2, none⟩ = some (.bool kb) := cell_of HS7.out.fl 2
          obtain ⟨ul, hul2⟩ : ∃ x, x = us.length := ⟨_, rfl⟩
          rw [← hul2] at HFI ⊢
          have HUL := keepH hul2
          clear hst hmm hul hU hul2
          go_wp2_with fail
          refine HFI.out.mono ?_
          rintro e w8 ⟨hC8, hcase⟩
          have HKU8 := keepH (HKU.out.chg HPL.out hC8)
          rcases hcase with ⟨hk, okf, hokf, rfl, hX8⟩ | ⟨hk, hlen, rfl, hX8⟩ | ⟨hk, hlen, rfl⟩
          · rw [← HUL.out] at hX8
            have HS8 := keepH (HS7.out.chg hC8 hX8)
            have HKK := keepH hk
            have HOKF := keepH hokf
            clear hk hC8 hX8 hokf f0 f1 f2
            cases okf with
            | true =>
              have d0 : w8.cell? ⟨P, 0, none⟩ = _ := cell_of HS8.out.bx 0
              have d1 : w8.cell? ⟨P, 1, none⟩ = _ := cell_of HS8.out.bx 1
              have d2 : w8.cell? ⟨P, 2, none⟩ = _ := cell_of HS8.out.bx 2
              have d3 : w8.cell? ⟨P, 3, none⟩ = _ := cell_of HS8.out.bx 3
              have d4 : w8.cell? ⟨P, 4, none⟩ = _ := cell_of HS8.out.bx 4
              have d5 : w8.cell? ⟨P, 5, none⟩ = _ := cell_of HS8.out.bx 5
              have d6 : w8.cell? ⟨P, 6, none⟩ = _ := cell_of HS8.out.bx 6
              have d7 : w8.cell? ⟨P, 7, none⟩ = _ := cell_of HS8.out.bx 7
              have d8 : w8.cell? ⟨P, 8, none⟩ = _ := cell_of HS8.out.bx 8
              have d9 : w8.cell? ⟨P, 9, none⟩ = _ := cell_of HS8.out.bx 9
              have d10 : w8.cell? ⟨P, 10, none⟩ = _ := cell_of HS8.out.bx 10
              go_wp2_with (first | (refine wpList_store_row rfl 28 _ _ rfl R (opR k 0 0 0 0 false 0 0 (.slice lp ul lc) 0 0) rfl rfl 28 (opR 0 0 0 0 0 false 0 0 (.slice none 0 0) 0 0) HS8.out.rr (by kernel_rfl) rfl (by simp [Value.oneCell']) ?_) | fail)
              have hfin := HS8.out.fin (opR k 0 0 0 0 false 0 0 (.slice lp ul lc) 0 0)
              have e0 := cell_of hfin.1 0
              have e1 := cell_of hfin.1 1
              have e2 := cell_of hfin.1 2
              have e3 := cell_of hfin.1 3
              have e4 := cell_of hfin.1 4
              have e5 := cell_of hfin.1 5
              have e6 := cell_of hfin.1 6
              have e7 := cell_of hfin.1 7
              have e8 := cell_of hfin.1 8
              have e9 := cell_of hfin.1 9
              have e10 := cell_of hfin.1 10
              simp at e0 e1 e2 e3 e4 e5 e6 e7 e8 e9 e10
              refine bodyPost_ret (v := .tuple #[.agg (opR k 0 0 0 0 false 0 0 (.slice lp ul lc) 0 0), .bool true]) (by simp [results, Tryz.results31, go_sem, e0, e1, e2, e3, e4, e5, e6, e7, e8, e9, e10]) rfl ?_
              exact ⟨true, ⟨k, 0, 0, 0, 0, false, 0, 0, us, 0, 0⟩, lp, lc, by rw [HUL.out]; rfl, yes_keys HHK.out HHP.out HSP.out HMM.out HKK.out (by have := HOKF.out; simp at this; exact this), (HKU8.out.row HRL.out _).mono HPS.out.bel.size, fun e => by simp at e, hfin.2⟩
            | false =>
              go_wp2_with (first | (refine wpList_store_row rfl 28 _ _ rfl R (opR 0 0 0 0 0 false 0 0 (.slice none 0 0) 0 0) rfl rfl 28 (opR 0 0 0 0 0 false 0 0 (.slice none 0 0) 0 0) HS8.out.rr (by kernel_rfl) rfl (by simp [Value.oneCell']) ?_) | fail)
              have hfin := HS8.out.fin (opR 0 0 0 0 0 false 0 0 (.slice none 0 0) 0 0)
              have e0 := cell_of hfin.1 0
              have e1 := cell_of hfin.1 1
              have e2 := cell_of hfin.1 2
              have e3 := cell_of hfin.1 3
              have e4 := cell_of hfin.1 4
              have e5 := cell_of hfin.1 5
              have e6 := cell_of hfin.1 6
              have e7 := cell_of hfin.1 7
              have e8 := cell_of hfin.1 8
              have e9 := cell_of hfin.1 9
              have e10 := cell_of hfin.1 10
              simp at e0 e1 e2 e3 e4 e5 e6 e7 e8 e9 e10
              refine bodyPost_ret (v := .tuple #[.agg (opR 0 0 0 0 0 false 0 0 (.slice none 0 0) 0 0), .bool false]) (by simp [results, Tryz.results31, go_sem, e0, e1, e2, e3, e4, e5, e6, e7, e8, e9, e10]) rfl ?_
              exact ⟨false, zeroO, none, 0, rfl, pq_no (no_keys HHK.out HHP.out HSP.out HMM.out HKK.out (by have := HOKF.out; simp at this; omega)), .inl rfl, fun _ => rfl, hfin.2⟩
          · have HS8 := keepH (HS7.out.chg hC8 hX8)
            have HKK := keepH hk
            have HLEN := keepH hlen
            clear hk hC8 hX8 hlen f0 f1 f2
            obtain ⟨x1, h1⟩ : ∃ x, x = fk k us 1 := ⟨_, rfl⟩
            obtain ⟨x2, h2⟩ : ∃ x, x = fk k us 2 := ⟨_, rfl⟩
            obtain ⟨x3, h3⟩ : ∃ x, x = fk k us 3 := ⟨_, rfl⟩
            obtain ⟨x9, h9⟩ : ∃ x, x = fk k us 9 := ⟨_, rfl⟩
            obtain ⟨x10, h10⟩ : ∃ x, x = fk k us 10 := ⟨_, rfl⟩
            have HYN := keepH (yes_nums HHK.out HHP.out HSP.out HMM.out HKK.out HLEN.out)
            rw [← h1, ← h2, ← h3, ← h9, ← h10] at HS8 HYN
            clear h1 h2 h3 h9 h10
            have d0 : w8.cell? ⟨P, 0, none⟩ = _ := cell_of HS8.out.bx 0
            have d1 : w8.cell? ⟨P, 1, none⟩ = _ := cell_of HS8.out.bx 1
            have d2 : w8.cell? ⟨P, 2, none⟩ = _ := cell_of HS8.out.bx 2
            have d3 : w8.cell? ⟨P, 3, none⟩ = _ := cell_of HS8.out.bx 3
            have d4 : w8.cell? ⟨P, 4, none⟩ = _ := cell_of HS8.out.bx 4
            have d5 : w8.cell? ⟨P, 5, none⟩ = _ := cell_of HS8.out.bx 5
            have d6 : w8.cell? ⟨P, 6, none⟩ = _ := cell_of HS8.out.bx 6
            have d7 : w8.cell? ⟨P, 7, none⟩ = _ := cell_of HS8.out.bx 7
            have d8 : w8.cell? ⟨P, 8, none⟩ = _ := cell_of HS8.out.bx 8
            have d9 : w8.cell? ⟨P, 9, none⟩ = _ := cell_of HS8.out.bx 9
            have d10 : w8.cell? ⟨P, 10, none⟩ = _ := cell_of HS8.out.bx 10
            go_wp2_with (first | (refine wpList_store_row rfl 28 _ _ rfl R (opR k x1 x2 x3 0 false 0 0 (.slice none 0 0) x9 x10) rfl rfl 28 (opR 0 0 0 0 0 false 0 0 (.slice none 0 0) 0 0) HS8.out.rr (by kernel_rfl) rfl (by simp [Value.oneCell']) ?_) | fail)
            have hfin := HS8.out.fin (opR k x1 x2 x3 0 false 0 0 (.slice none 0 0) x9 x10)
            have e0 := cell_of hfin.1 0
            have e1 := cell_of hfin.1 1
            have e2 := cell_of hfin.1 2
            have e3 := cell_of hfin.1 3
            have e4 := cell_of hfin.1 4
            have e5 := cell_of hfin.1 5
            have e6 := cell_of hfin.1 6
            have e7 := cell_of hfin.1 7
            have e8 := cell_of hfin.1 8
            have e9 := cell_of hfin.1 9
            have e10 := cell_of hfin.1 10
            simp at e0 e1 e2 e3 e4 e5 e6 e7 e8 e9 e10
            refine bodyPost_ret (v := .tuple #[.agg (opR k x1 x2 x3 0 false 0 0 (.slice none 0 0) x9 x10), .bool true]) (by simp [results, Tryz.results31, go_sem, e0, e1, e2, e3, e4, e5, e6, e7, e8, e9, e10]) rfl ?_
            exact ⟨true, ⟨k, x1, x2, x3, 0, false, 0, 0, [], x9, x10⟩, none, 0, rfl, HYN.out, .inl rfl, fun e => by simp at e, hfin.2⟩
          · have HRR8 : Hid (w8.heap[R]? = some (.cells (opR 0 0 0 0 0 false 0 0 (.slice none 0 0) 0 0) 28 (0, 0))) := keepH ((hC8.block R (Array.getElem?_eq_some_iff.1 HS7.out.rr).1 HS7.out.nr).trans HS7.out.rr)
            have HB8 : Hid (Below W.heap.size W w8) := keepH (chg_bel HS7.out.bel HS7.out.lo hC8)
            have HLR := keepH HS7.out.lr
            have HKK := keepH hk
            have HLEN := keepH hlen
            clear hk hC8 hlen f0 f1 f2
            go_wp2_with (first | (refine wpList_store_row rfl 28 _ _ rfl R (opR 0 0 0 0 0 false 0 0 (.slice none 0 0) 0 0) rfl rfl 28 (opR 0 0 0 0 0 false 0 0 (.slice none 0 0) 0 0) HRR8.out (by kernel_rfl) rfl (by simp [Value.oneCell']) ?_) | fail)
            have hrow := setRow_heap _ R _ (opR 0 0 0 0 0 false 0 0 (.slice none 0 0) 0 0) 28 (0, 0) HRR8.out
            have e0 := cell_of hrow 0
            have e1 := cell_of hrow 1
            have e2 := cell_of hrow 2
            have e3 := cell_of hrow 3
            have e4 := cell_of hrow 4
            have e5 := cell_of hrow 5
            have e6 := cell_of hrow 6
            have e7 := cell_of hrow 7
            have e8 := cell_of hrow 8
            have e9 := cell_of hrow 9
            have e10 := cell_of hrow 10
            simp at e0 e1 e2 e3 e4 e5 e6 e7 e8 e9 e10
            refine bodyPost_ret (v := .tuple #[.agg (opR 0 0 0 0 0 false 0 0 (.slice none 0 0) 0 0), .bool false]) (by simp [results, Tryz.results31, go_sem, e0, e1, e2, e3, e4, e5, e6, e7, e8, e9, e10]) rfl ?_
            exact ⟨false, zeroO, none, 0, rfl, pq_no (no_len HHK.out HHP.out HSP.out HMM.out HKK.out HLEN.out), .inl rfl, fun _ => rfl, below_setRow HB8.out HLR.out _⟩
        · have HS7 := keepH (HPS.out.on B7)
          have HMM := keepH hmm
          clear B7 hmm
          go_wp2_with (first | (refine wpList_store_row rfl 28 _ _ rfl R (opR 0 0 0 0 0 false 0 0 (.slice none 0 0) 0 0) rfl rfl 28 (opR 0 0 0 0 0 false 0 0 (.slice none 0 0) 0 0) HS7.out.rr (by kernel_rfl) rfl (by simp [Value.oneCell']) ?_) | fail)
          have hfin := HS7.out.fin (opR 0 0 0 0 0 false 0 0 (.slice none 0 0) 0 0)
          have e0 := cell_of hfin.1 0
          have e1 := cell_of hfin.1 1
          have e2 := cell_of hfin.1 2
          have e3 := cell_of hfin.1 3
          have e4 := cell_of hfin.1 4
          have e5 := cell_of hfin.1 5
          have e6 := cell_of hfin.1 6
          have e7 := cell_of hfin.1 7
          have e8 := cell_of hfin.1 8
          have e9 := cell_of hfin.1 9
          have e10 := cell_of hfin.1 10
          simp at e0 e1 e2 e3 e4 e5 e6 e7 e8 e9 e10
          refine bodyPost_ret (v := .tuple #[.agg (opR 0 0 0 0 0 false 0 0 (.slice none 0 0) 0 0), .bool false]) (by simp [results, Tryz.results31, go_sem, e0, e1, e2, e3, e4, e5, e6, e7, e8, e9, e10]) rfl ?_
          exact ⟨false, zeroO, none, 0, rfl, pq_no (no_nums HHK.out HHP.out HSP.out HMM.out), .inl rfl, fun _ => rfl, hfin.2⟩
    | true =>
      cases r0 with
      | nil =>
        obtain rfl : n = 0 := HN.out
        go_upto_region 10 with fail
        clear f0'
        go_wp2_with (first | (refine wpList_store_row rfl 28 _ _ rfl R (opR 0 0 0 0 0 false 0 0 (.slice none 0 0) 0 0) rfl rfl 28 (opR 0 0 0 0 0 false 0 0 (.slice none 0 0) 0 0) HS5.out.rr (by kernel_rfl) rfl (by simp [Value.oneCell']) ?_) | fail)
        have hfin := HS5.out.fin (opR 0 0 0 0 0 false 0 0 (.slice none 0 0) 0 0)
        have e0 := cell_of hfin.1 0
        have e1 := cell_of hfin.1 1
        have e2 := cell_of hfin.1 2
        have e3 := cell_of hfin.1 3
        have e4 := cell_of hfin.1 4
        have e5 := cell_of hfin.1 5
        have e6 := cell_of hfin.1 6
        have e7 := cell_of hfin.1 7
        have e8 := cell_of hfin.1 8
        have e9 := cell_of hfin.1 9
        have e10 := cell_of hfin.1 10
        simp at e0 e1 e2 e3 e4 e5 e6 e7 e8 e9 e10
        refine bodyPost_ret (v := .tuple #[.agg (opR 0 0 0 0 0 false 0 0 (.slice none 0 0) 0 0), .bool false]) (by simp [results, Tryz.results31, go_sem, e0, e1, e2, e3, e4, e5, e6, e7, e8, e9, e10]) rfl ?_
        exact ⟨false, zeroO, none, 0, rfl, pq_no (no_hd HHK.out HHD.out.symm HSP0.out), .inl rfl, fun _ => rfl, hfin.2⟩
      | cons f1 r1 =>
        have hnz : ¬ n = 0 := by have := HN.out; simp at this; omega
        have HS6 : Hid (PS W R P F (opR k 0 0 0 0 false 0 0 (.slice none 0 0) 0 0) #[.bool true, .slice pp m m, .bool kb] (.slice pp m m) (numK k) S0 1 (f1 :: r1) w5) := keepH (HS5.out.cut (fun h => rfl))
        have g0 : w5.cell? ⟨S0, 1, none⟩ = some (.string (mkS f1)) := HS6.out.st 0 f1 rfl
        have HRQ := keepH (HRH.out P k f1 (by have := HFE.out f1 (by simp); omega) w5 HS6.out.bel HS6.out.bx)
        obtain ⟨s1, hs1⟩ : ∃ s, s = mkS f1 := ⟨_, rfl⟩
        rw [← hs1] at g0 HRQ
        clear hs1
        go_wp2_with fail
        refine HRQ.out.mono ?_
        rintro e w6 ⟨ok, hnd, set, rt, ri, rfl, hX6, hdq, hC6⟩
        have HS6b := keepH (HS6.out.chg hC6 hX6)
        have HDQ := keepH hdq
        clear hX6 hC6 hdq g0 f0'
        cases ok with
        | false =>
          go_wp2_with (first | (refine wpList_store_row rfl 28 _ _ rfl R (opR 0 0 0 0 0 false 0 0 (.slice none 0 0) 0 0) rfl rfl 28 (opR 0 0 0 0 0 false 0 0 (.slice none 0 0) 0 0) HS6b.out.rr (by kernel_rfl) rfl (by simp [Value.oneCell']) ?_) | fail)
          have hfin := HS6b.out.fin (opR 0 0 0 0 0 false 0 0 (.slice none 0 0) 0 0)
          have e0 := cell_of hfin.1 0
          have e1 := cell_of hfin.1 1
          have e2 := cell_of hfin.1 2
          have e3 := cell_of hfin.1 3
          have e4 := cell_of hfin.1 4
          have e5 := cell_of hfin.1 5
          have e6 := cell_of hfin.1 6
          have e7 := cell_of hfin.1 7
          have e8 := cell_of hfin.1 8
          have e9 := cell_of hfin.1 9
          have e10 := cell_of hfin.1 10
          simp at e0 e1 e2 e3 e4 e5 e6 e7 e8 e9 e10
          refine bodyPost_ret (v := .tuple #[.agg (opR 0 0 0 0 0 false 0 0 (.slice none 0 0) 0 0), .bool false]) (by simp [results, Tryz.results31, go_sem, e0, e1, e2, e3, e4, e5, e6, e7, e8, e9, e10]) rfl ?_
          exact ⟨false, zeroO, none, 0, rfl, pq_no (no_hd2 HHK.out HHD.out.symm HSP0.out HDQ.out), .inl rfl, fun _ => rfl, hfin.2⟩
        | true =>
          have HHP : Hid (HPart k hnd set rt ri [f1]) := keepH (.inl ⟨HHD.out.symm, f1, rfl, HDQ.out⟩)
          have HSP : Hid (Lib.split t [32] = opW k :: ([f1] ++ r1)) := keepH HSP0.out
          by_cases hz1 : r1 = []
          · subst hz1
            obtain rfl : n = 1 := HN.out
            have HS7a : Hid (PS W R P F (opR k 0 0 0 hnd set rt ri (.slice none 0 0) 0 0) #[.bool true, .slice pp m m, .bool kb] (.slice pp m m) (numK k) S0 1 [] w6) := keepH (HS6b.out.cut (fun h => by simp at h))
            go_upto_region 12 with fail
            have hnl : ([] : List (List UInt8)).length ≤ 10000000 := by have := HFL.out; simp only [List.length_cons] at this; omega
            have HQ0 := keepH (HNU.out (some ⟨S0, 1, none⟩) (0) ([] : List (List UInt8)) (by omega) (fun f hf => by have := HFE.out f (by simp [hf]); omega) w6 HS7a.out.bel HS7a.out.srd)
            have HQ : Hid (Calls Tryz.prog 77 #[.func (.func 78) #[] #[], .slice (some ⟨S0, 1, none⟩) 0 0] w6 (NumsStU w6 [])) := keepH HQ0.out
            have HPS := HS7a
            have hPlt : P < w6.heap.size := (Array.getElem?_eq_some_iff.1 HS7a.out.bx).1
            have hRlt : R < w6.heap.size := (Array.getElem?_eq_some_iff.1 HS7a.out.rr).1
            have HPL := keepH hPlt
            have HRL := keepH hRlt
            clear hPlt hRlt HQ0
            go_wp2_with fail
            refine HQ.out.mono ?_
            rintro e w7 (⟨us, v, hmm, rfl, hst⟩ | ⟨hmm, rfl, B7⟩)
            · obtain ⟨lp, lc, rfl, hU⟩ := stu_form hst
              have HS7 := keepH (HPS.out.on hst.bel)
              have hul : us.length ≤ 10000000 := by rw [mapM_u_len hmm]; simp
              have HFI := keepH (fill_any P k hnd set rt ri true pp lp us lc (by omega) w7 HS7.out.bx (by have hq := HS7.out.num; rw [← HM.out] at hq ⊢; exact hq) (hU.lst HPL.out))
              have HKU := keepH hU
              rw [← HM.out, ← HKB.out] at HFI
              have HMM := keepH hmm
              have f0 : w7.cell? ⟨F, 0, none⟩ = some (.bool true) := cell_of HS7.out.fl 0
              have f1 : w7.cell? ⟨F, 1, none⟩ = some (.slice pp m m) := cell_of HS7.out.fl 1
              have f2 : w7.cell? ⟨F, 2, none⟩ = some (.bool kb) := cell_of HS7.out.fl 2
              obtain ⟨ul, hul2⟩ : ∃ x, x = us.length := ⟨_, rfl⟩
              rw [← hul2] at HFI ⊢
              have HUL := keepH hul2
              clear hst hmm hul hU hul2
              go_wp2_with fail
              refine HFI.out.mono ?_
              rintro e w8 ⟨hC8, hcase⟩
              have HKU8 := keepH (HKU.out.chg HPL.out hC8)
              rcases hcase with ⟨hk, okf, hokf, rfl, hX8⟩ | ⟨hk, hlen, rfl, hX8⟩ | ⟨hk, hlen, rfl⟩
              · rw [← HUL.out] at hX8
                have HS8 := keepH (HS7.out.chg hC8 hX8)
                have HKK := keepH hk
                have HOKF := keepH hokf
                clear hk hC8 hX8 hokf f0 f1 f2
                cases okf with
                | true =>
                  have d0 : w8.cell? ⟨P, 0, none⟩ = _ := cell_of HS8.out.bx 0
                  have d1 : w8.cell? ⟨P, 1, none⟩ = _ := cell_of HS8.out.bx 1
                  have d2 : w8.cell? ⟨P, 2, none⟩ = _ := cell_of HS8.out.bx 2
                  have d3 : w8.cell? ⟨P, 3, none⟩ = _ := cell_of HS8.out.bx 3
                  have d4 : w8.cell? ⟨P, 4, none⟩ = _ := cell_of HS8.out.bx 4
                  have d5 : w8.cell? ⟨P, 5, none⟩ = _ := cell_of HS8.out.bx 5
                  have d6 : w8.cell? ⟨P, 6, none⟩ = _ := cell_of HS8.out.bx 6
                  have d7 : w8.cell? ⟨P, 7, none⟩ = _ := cell_of HS8.out.bx 7
                  have d8 : w8.cell? ⟨P, 8, none⟩ = _ := cell_of HS8.out.bx 8
                  have d9 : w8.cell? ⟨P, 9, none⟩ = _ := cell_of HS8.out.bx 9
                  have d10 : w8.cell? ⟨P, 10, none⟩ = _ := cell_of HS8.out.bx 10
                  go_wp2_with (first | (refine wpList_store_row rfl 28 _ _ rfl R (opR k 0 0 0 hnd set rt ri (.slice lp ul lc) 0 0) rfl rfl 28 (opR 0 0 0 0 0 false 0 0 (.slice none 0 0) 0 0) HS8.out.rr (by kernel_rfl) rfl (by simp [Value.oneCell']) ?_) | fail)
                  have hfin := HS8.out.fin (opR k 0 0 0 hnd set rt ri (.slice lp ul lc) 0 0)
                  have e0 := cell_of hfin.1 0
                  have e1 := cell_of hfin.1 1
                  have e2 := cell_of hfin.1 2
                  have e3 := cell_of hfin.1 3
                  have e4 := cell_of hfin.1 4
                  have e5 := cell_of hfin.1 5
                  have e6 := cell_of hfin.1 6
                  have e7 := cell_of hfin.1 7
                  have e8 := cell_of hfin.1 8
                  have e9 := cell_of hfin.1 9
                  have e10 := cell_of hfin.1 10
                  simp at e0 e1 e2 e3 e4 e5 e6 e7 e8 e9 e10
                  refine bodyPost_ret (v := .tuple #[.agg (opR k 0 0 0 hnd set rt ri (.slice lp ul lc) 0 0), .bool true]) (by simp [results, Tryz.results31, go_sem, e0, e1, e2, e3, e4, e5, e6, e7, e8, e9, e10]) rfl ?_
                  exact ⟨true, ⟨k, 0, 0, 0, hnd, set, rt, ri, us, 0, 0⟩, lp, lc, by rw [HUL.out]; rfl, yes_keys HHK.out HHP.out HSP.out HMM.out HKK.out (by have := HOKF.out; simp at this; exact this), (HKU8.out.row HRL.out _).mono HPS.out.bel.size, fun e => by simp at e, hfin.2⟩
                | false =>
                  go_wp2_with (first | (refine wpList_store_row rfl 28 _ _ rfl R (opR 0 0 0 0 0 false 0 0 (.slice none 0 0) 0 0) rfl rfl 28 (opR 0 0 0 0 0 false 0 0 (.slice none 0 0) 0 0) HS8.out.rr (by kernel_rfl) rfl (by simp [Value.oneCell']) ?_) | fail)
                  have hfin := HS8.out.fin (opR 0 0 0 0 0 false 0 0 (.slice none 0 0) 0 0)
                  have e0 := cell_of hfin.1 0
                  have e1 := cell_of hfin.1 1
                  have e2 := cell_of hfin.1 2
                  have e3 := cell_of hfin.1 3
                  have e4 := cell_of hfin.1 4
                  have e5 := cell_of hfin.1 5
                  have e6 := cell_of hfin.1 6
                  have e7 := cell_of hfin.1 7
                  have e8 := cell_of hfin.1 8
                  have e9 := cell_of hfin.1 9
                  have e10 := cell_of hfin.1 10
                  simp at e0 e1 e2 e3 e4 e5 e6 e7 e8 e9 e10
                  refine bodyPost_ret (v := .tuple #[.agg (opR 0 0 0 0 0 false 0 0 (.slice none 0 0) 0 0), .bool false]) (by simp [results, Tryz.results31, go_sem, e0, e1, e2, e3, e4, e5, e6, e7, e8, e9, e10]) rfl ?_
                  exact ⟨false, zeroO, none, 0, rfl, pq_no (no_keys HHK.out HHP.out HSP.out HMM.out HKK.out (by have := HOKF.out; simp at this; omega)), .inl rfl, fun _ => rfl, hfin.2⟩
              · have HS8 := keepH (HS7.out.chg hC8 hX8)
                have HKK := keepH hk
                have HLEN := keepH hlen
                clear hk hC8 hX8 hlen f0 f1 f2
                obtain ⟨x1, h1⟩ : ∃ x, x = fk k us 1 := ⟨_, rfl⟩
                obtain ⟨x2, h2⟩ : ∃ x, x = fk k us 2 := ⟨_, rfl⟩
                obtain ⟨x3, h3⟩ : ∃ x, x = fk k us 3 := ⟨_, rfl⟩
                obtain ⟨x9, h9⟩ : ∃ x, x = fk k us 9 := ⟨_, rfl⟩
                obtain ⟨x10, h10⟩ : ∃ x, x = fk k us 10 := ⟨_, rfl⟩
                have HYN := keepH (yes_nums HHK.out HHP.out HSP.out HMM.out HKK.out HLEN.out)
                rw [← h1, ← h2, ← h3, ← h9, ← h10] at HS8 HYN
                clear h1 h2 h3 h9 h10
                have d0 : w8.cell? ⟨P, 0, none⟩ = _ := cell_of HS8.out.bx 0
                have d1 : w8.cell? ⟨P, 1, none⟩ = _ := cell_of HS8.out.bx 1
                have d2 : w8.cell? ⟨P, 2, none⟩ = _ := cell_of HS8.out.bx 2
                have d3 : w8.cell? ⟨P, 3, none⟩ = _ := cell_of HS8.out.bx 3
                have d4 : w8.cell? ⟨P, 4, none⟩ = _ := cell_of HS8.out.bx 4
                have d5 : w8.cell? ⟨P, 5, none⟩ = _ := cell_of HS8.out.bx 5
                have d6 : w8.cell? ⟨P, 6, none⟩ = _ := cell_of HS8.out.bx 6
                have d7 : w8.cell? ⟨P, 7, none⟩ = _ := cell_of HS8.out.bx 7
                have d8 : w8.cell? ⟨P, 8, none⟩ = _ := cell_of HS8.out.bx 8
                have d9 : w8.cell? ⟨P, 9, none⟩ = _ := cell_of HS8.out.bx 9
                have d10 : w8.cell? ⟨P, 10, none⟩ = _ := cell_of HS8.out.bx 10
                go_wp2_with (first | (refine wpList_store_row rfl 28 _ _ rfl R (opR k x1 x2 x3 hnd set rt ri (.slice none 0 0) x9 x10) rfl rfl 28 (opR 0 0 0 0 0 false 0 0 (.slice none 0 0) 0 0) HS8.out.rr (by kernel_rfl) rfl (by simp [Value.oneCell']) ?_) | fail)
                have hfin := HS8.out.fin (opR k x1 x2 x3 hnd set rt ri (.slice none 0 0) x9 x10)
                have e0 := cell_of hfin.1 0
                have e1 := cell_of hfin.1 1
                have e2 := cell_of hfin.1 2
                have e3 := cell_of hfin.1 3
                have e4 := cell_of hfin.1 4
                have e5 := cell_of hfin.1 5
                have e6 := cell_of hfin.1 6
                have e7 := cell_of hfin.1 7
                have e8 := cell_of hfin.1 8
                have e9 := cell_of hfin.1 9
                have e10 := cell_of hfin.1 10
                simp at e0 e1 e2 e3 e4 e5 e6 e7 e8 e9 e10
                refine bodyPost_ret (v := .tuple #[.agg (opR k x1 x2 x3 hnd set rt ri (.slice none 0 0) x9 x10), .bool true]) (by simp [results, Tryz.results31, go_sem, e0, e1, e2, e3, e4, e5, e6, e7, e8, e9, e10]) rfl ?_
                exact ⟨true, ⟨k, x1, x2, x3, hnd, set, rt, ri, [], x9, x10⟩, none, 0, rfl, HYN.out, .inl rfl, fun e => by simp at e, hfin.2⟩
              · have HRR8 : Hid (w8.heap[R]? = some (.cells (opR 0 0 0 0 0 false 0 0 (.slice none 0 0) 0 0) 28 (0, 0))) := keepH ((hC8.block R (Array.getElem?_eq_some_iff.1 HS7.out.rr).1 HS7.out.nr).trans HS7.out.rr)
                have HB8 : Hid (Below W.heap.size W w8) := keepH (chg_bel HS7.out.bel HS7.out.lo hC8)
                have HLR := keepH HS7.out.lr
                have HKK := keepH hk
                have HLEN := keepH hlen
                clear hk hC8 hlen f0 f1 f2
                go_wp2_with (first | (refine wpList_store_row rfl 28 _ _ rfl R (opR 0 0 0 0 0 false 0 0 (.slice none 0 0) 0 0) rfl rfl 28 (opR 0 0 0 0 0 false 0 0 (.slice none 0 0) 0 0) HRR8.out (by kernel_rfl) rfl (by simp [Value.oneCell']) ?_) | fail)
                have hrow := setRow_heap _ R _ (opR 0 0 0 0 0 false 0 0 (.slice none 0 0) 0 0) 28 (0, 0) HRR8.out
                have e0 := cell_of hrow 0
                have e1 := cell_of hrow 1
                have e2 := cell_of hrow 2
                have e3 := cell_of hrow 3
                have e4 := cell_of hrow 4
                have e5 := cell_of hrow 5
                have e6 := cell_of hrow 6
                have e7 := cell_of hrow 7
                have e8 := cell_of hrow 8
                have e9 := cell_of hrow 9
                have e10 := cell_of hrow 10
                simp at e0 e1 e2 e3 e4 e5 e6 e7 e8 e9 e10
                refine bodyPost_ret (v := .tuple #[.agg (opR 0 0 0 0 0 false 0 0 (.slice none 0 0) 0 0), .bool false]) (by simp [results, Tryz.results31, go_sem, e0, e1, e2, e3, e4, e5, e6, e7, e8, e9, e10]) rfl ?_
                exact ⟨false, zeroO, none, 0, rfl, pq_no (no_len HHK.out HHP.out HSP.out HMM.out HKK.out HLEN.out), .inl rfl, fun _ => rfl, below_setRow HB8.out HLR.out _⟩
            · have HS7 := keepH (HPS.out.on B7)
              have HMM := keepH hmm
              clear B7 hmm
              go_wp2_with (first | (refine wpList_store_row rfl 28 _ _ rfl R (opR 0 0 0 0 0 false 0 0 (.slice none 0 0) 0 0) rfl rfl 28 (opR 0 0 0 0 0 false 0 0 (.slice none 0 0) 0 0) HS7.out.rr (by kernel_rfl) rfl (by simp [Value.oneCell']) ?_) | fail)
              have hfin := HS7.out.fin (opR 0 0 0 0 0 false 0 0 (.slice none 0 0) 0 0)
              have e0 := cell_of hfin.1 0
              have e1 := cell_of hfin.1 1
              have e2 := cell_of hfin.1 2
              have e3 := cell_of hfin.1 3
              have e4 := cell_of hfin.1 4
              have e5 := cell_of hfin.1 5
              have e6 := cell_of hfin.1 6
              have e7 := cell_of hfin.1 7
              have e8 := cell_of hfin.1 8
              have e9 := cell_of hfin.1 9
              have e10 := cell_of hfin.1 10
              simp at e0 e1 e2 e3 e4 e5 e6 e7 e8 e9 e10
              refine bodyPost_ret (v := .tuple #[.agg (opR 0 0 0 0 0 false 0 0 (.slice none 0 0) 0 0), .bool false]) (by simp [results, Tryz.results31, go_sem, e0, e1, e2, e3, e4, e5, e6, e7, e8, e9, e10]) rfl ?_
              exact ⟨false, zeroO, none, 0, rfl, pq_no (no_nums HHK.out HHP.out HSP.out HMM.out), .inl rfl, fun _ => rfl, hfin.2⟩
          · obtain ⟨n1, hn1⟩ : ∃ x, x = r1.length := ⟨_, rfl⟩
            obtain rfl : n = n1 + 1 := by rw [HN.out, hn1]; rfl
            have hnz1 : ¬ n1 = 0 := by
              rw [hn1]
              intro e
              exact hz1 (List.eq_nil_of_length_eq_zero e)
            have HS7a : Hid (PS W R P F (opR k 0 0 0 hnd set rt ri (.slice none 0 0) 0 0) #[.bool true, .slice pp m m, .bool kb] (.slice pp m m) (numK k) S0 2 r1 w6) := keepH (HS6b.out.cut (fun h => rfl))
            have HN1 := keepH hn1
            clear hz1 hn1
            go_upto_region 12 with fail
            rw [show n1 = r1.length from HN1.out]
            have hnl : r1.length ≤ 10000000 := by have := HFL.out; simp only [List.length_cons] at this; omega
            have HQ0 := keepH (HNU.out (some ⟨S0, 2, none⟩) (r1.length) r1 (by omega) (fun f hf => by have := HFE.out f (by simp [hf]); omega) w6 HS7a.out.bel HS7a.out.srd)
            have HQ := HQ0
            obtain ⟨nn, hnn⟩ : ∃ x, x = r1.length := ⟨_, rfl⟩
            have HNN := keepH hnn
            rw [← hnn] at HQ hnl ⊢
            have HPS := HS7a
            have hPlt : P < w6.heap.size := (Array.getElem?_eq_some_iff.1 HS7a.out.bx).1
            have hRlt : R < w6.heap.size := (Array.getElem?_eq_some_iff.1 HS7a.out.rr).1
            have HPL := keepH hPlt
            have HRL := keepH hRlt
            clear hnn hPlt hRlt HQ0
            go_wp2_with fail
            refine HQ.out.mono ?_
            rintro e w7 (⟨us, v, hmm, rfl, hst⟩ | ⟨hmm, rfl, B7⟩)
            · obtain ⟨lp, lc, rfl, hU⟩ := stu_form hst
              have HS7 := keepH (HPS.out.on hst.bel)
              have hul : us.length ≤ 10000000 := by rw [mapM_u_len hmm, ← HNN.out]; omega
              have HFI := keepH (fill_any P k hnd set rt ri true pp lp us lc (by omega) w7 HS7.out.bx (by have hq := HS7.out.num; rw [← HM.out] at hq ⊢; exact hq) (hU.lst HPL.out))
              have HKU := keepH hU
              rw [← HM.out, ← HKB.out] at HFI
              have HMM := keepH hmm
              have f0 : w7.cell? ⟨F, 0, none⟩ = some (.bool true) := cell_of HS7.out.fl 0
              have f1 : w7.cell? ⟨F, 1, none⟩ = some (.slice pp m m) := cell_of HS7.out.fl 1
              have f2 : w7.cell? ⟨F, 2, none⟩ = some (.bool kb) := cell_of HS7.out.fl 2
              obtain ⟨ul, hul2⟩ : ∃ x, x = us.length := ⟨_, rfl⟩
              rw [← hul2] at HFI ⊢
              have HUL := keepH hul2
              clear hst hmm hul hU hul2
              go_wp2_with fail
              refine HFI.out.mono ?_
              rintro e w8 ⟨hC8, hcase⟩
              have HKU8 := keepH (HKU.out.chg HPL.out hC8)
              rcases hcase with ⟨hk, okf, hokf, rfl, hX8⟩ | ⟨hk, hlen, rfl, hX8⟩ | ⟨hk, hlen, rfl⟩
              · rw [← HUL.out] at hX8
                have HS8 := keepH (HS7.out.chg hC8 hX8)
                have HKK := keepH hk
                have HOKF := keepH hokf
                clear hk hC8 hX8 hokf f0 f1 f2
                cases okf with
                | true =>
                  have d0 : w8.cell? ⟨P, 0, none⟩ = _ := cell_of HS8.out.bx 0
                  have d1 : w8.cell? ⟨P, 1, none⟩ = _ := cell_of HS8.out.bx 1
                  have d2 : w8.cell? ⟨P, 2, none⟩ = _ := cell_of HS8.out.bx 2
                  have d3 : w8.cell? ⟨P, 3, none⟩ = _ := cell_of HS8.out.bx 3
                  have d4 : w8.cell? ⟨P, 4, none⟩ = _ := cell_of HS8.out.bx 4
                  have d5 : w8.cell? ⟨P, 5, none⟩ = _ := cell_of HS8.out.bx 5
                  have d6 : w8.cell? ⟨P, 6, none⟩ = _ := cell_of HS8.out.bx 6
                  have d7 : w8.cell? ⟨P, 7, none⟩ = _ := cell_of HS8.out.bx 7
                  have d8 : w8.cell? ⟨P, 8, none⟩ = _ := cell_of HS8.out.bx 8
                  have d9 : w8.cell? ⟨P, 9, none⟩ = _ := cell_of HS8.out.bx 9
                  have d10 : w8.cell? ⟨P, 10, none⟩ = _ := cell_of HS8.out.bx 10
                  go_wp2_with (first | (refine wpList_store_row rfl 28 _ _ rfl R (opR k 0 0 0 hnd set rt ri (.slice lp ul lc) 0 0) rfl rfl 28 (opR 0 0 0 0 0 false 0 0 (.slice none 0 0) 0 0) HS8.out.rr (by kernel_rfl) rfl (by simp [Value.oneCell']) ?_) | fail)
                  have hfin := HS8.out.fin (opR k 0 0 0 hnd set rt ri (.slice lp ul lc) 0 0)
                  have e0 := cell_of hfin.1 0
                  have e1 := cell_of hfin.1 1
                  have e2 := cell_of hfin.1 2
                  have e3 := cell_of hfin.1 3
                  have e4 := cell_of hfin.1 4
                  have e5 := cell_of hfin.1 5
                  have e6 := cell_of hfin.1 6
                  have e7 := cell_of hfin.1 7
                  have e8 := cell_of hfin.1 8
                  have e9 := cell_of hfin.1 9
                  have e10 := cell_of hfin.1 10
                  simp at e0 e1 e2 e3 e4 e5 e6 e7 e8 e9 e10
                  refine bodyPost_ret (v := .tuple #[.agg (opR k 0 0 0 hnd set rt ri (.slice lp ul lc) 0 0), .bool true]) (by simp [results, Tryz.results31, go_sem, e0, e1, e2, e3, e4, e5, e6, e7, e8, e9, e10]) rfl ?_
                  exact ⟨true, ⟨k, 0, 0, 0, hnd, set, rt, ri, us, 0, 0⟩, lp, lc, by rw [HUL.out]; rfl, yes_keys HHK.out HHP.out HSP.out HMM.out HKK.out (by have := HOKF.out; simp at this; exact this), (HKU8.out.row HRL.out _).mono HPS.out.bel.size, fun e => by simp at e, hfin.2⟩
                | false =>
                  go_wp2_with (first | (refine wpList_store_row rfl 28 _ _ rfl R (opR 0 0 0 0 0 false 0 0 (.slice none 0 0) 0 0) rfl rfl 28 (opR 0 0 0 0 0 false 0 0 (.slice none 0 0) 0 0) HS8.out.rr (by kernel_rfl) rfl (by simp [Value.oneCell']) ?_) | fail)
                  have hfin := HS8.out.fin (opR 0 0 0 0 0 false 0 0 (.slice none 0 0) 0 0)
                  have e0 := cell_of hfin.1 0
                  have e1 := cell_of hfin.1 1
                  have e2 := cell_of hfin.1 2
                  have e3 := cell_of hfin.1 3
                  have e4 := cell_of hfin.1 4
                  have e5 := cell_of hfin.1 5
                  have e6 := cell_of hfin.1 6
                  have e7 := cell_of hfin.1 7
                  have e8 := cell_of hfin.1 8
                  have e9 := cell_of hfin.1 9
                  have e10 := cell_of hfin.1 10
                  simp at e0 e1 e2 e3 e4 e5 e6 e7 e8 e9 e10
                  refine bodyPost_ret (v := .tuple #[.agg (opR 0 0 0 0 0 false 0 0 (.slice none 0 0) 0 0), .bool false]) (by simp [results, Tryz.results31, go_sem, e0, e1, e2, e3, e4, e5, e6, e7, e8, e9, e10]) rfl ?_
                  exact ⟨false, zeroO, none, 0, rfl, pq_no (no_keys HHK.out HHP.out HSP.out HMM.out HKK.out (by have := HOKF.out; simp at this; omega)), .inl rfl, fun _ => rfl, hfin.2⟩
              · have HS8 := keepH (HS7.out.chg hC8 hX8)
                have HKK := keepH hk
                have HLEN := keepH hlen
                clear hk hC8 hX8 hlen f0 f1 f2
                obtain ⟨x1, h1⟩ : ∃ x, x = fk k us 1 := ⟨_, rfl⟩
                obtain ⟨x2, h2⟩ : ∃ x, x = fk k us 2 := ⟨_, rfl⟩
                obtain ⟨x3, h3⟩ : ∃ x, x = fk k us 3 := ⟨_, rfl⟩
                obtain ⟨x9, h9⟩ : ∃ x, x = fk k us 9 := ⟨_, rfl⟩
                obtain ⟨x10, h10⟩ : ∃ x, x = fk k us 10 := ⟨_, rfl⟩
                have HYN := keepH (yes_nums HHK.out HHP.out HSP.out HMM.out HKK.out HLEN.out)
                rw [← h1, ← h2, ← h3, ← h9, ← h10] at HS8 HYN
                clear h1 h2 h3 h9 h10
                have d0 : w8.cell? ⟨P, 0, none⟩ = _ := cell_of HS8.out.bx 0
                have d1 : w8.cell? ⟨P, 1, none⟩ = _ := cell_of HS8.out.bx 1
                have d2 : w8.cell? ⟨P, 2, none⟩ = _ := cell_of HS8.out.bx 2
                have d3 : w8.cell? ⟨P, 3, none⟩ = _ := cell_of HS8.out.bx 3
                have d4 : w8.cell? ⟨P, 4, none⟩ = _ := cell_of HS8.out.bx 4
                have d5 : w8.cell? ⟨P, 5, none⟩ = _ := cell_of HS8.out.bx 5
                have d6 : w8.cell? ⟨P, 6, none⟩ = _ := cell_of HS8.out.bx 6
                have d7 : w8.cell? ⟨P, 7, none⟩ = _ := cell_of HS8.out.bx 7
                have d8 : w8.cell? ⟨P, 8, none⟩ = _ := cell_of HS8.out.bx 8
                have d9 : w8.cell? ⟨P, 9, none⟩ = _ := cell_of HS8.out.bx 9
                have d10 : w8.cell? ⟨P, 10, none⟩ = _ := cell_of HS8.out.bx 10
                go_wp2_with (first | (refine wpList_store_row rfl 28 _ _ rfl R (opR k x1 x2 x3 hnd set rt ri (.slice none 0 0) x9 x10) rfl rfl 28 (opR 0 0 0 0 0 false 0 0 (.slice none 0 0) 0 0) HS8.out.rr (by kernel_rfl) rfl (by simp [Value.oneCell']) ?_) | fail)
                have hfin := HS8.out.fin (opR k x1 x2 x3 hnd set rt ri (.slice none 0 0) x9 x10)
                have e0 := cell_of hfin.1 0
                have e1 := cell_of hfin.1 1
                have e2 := cell_of hfin.1 2
                have e3 := cell_of hfin.1 3
                have e4 := cell_of hfin.1 4
                have e5 := cell_of hfin.1 5
                have e6 := cell_of hfin.1 6
                have e7 := cell_of hfin.1 7
                have e8 := cell_of hfin.1 8
                have e9 := cell_of hfin.1 9
                have e10 := cell_of hfin.1 10
                simp at e0 e1 e2 e3 e4 e5 e6 e7 e8 e9 e10
                refine bodyPost_ret (v := .tuple #[.agg (opR k x1 x2 x3 hnd set rt ri (.slice none 0 0) x9 x10), .bool true]) (by simp [results, Tryz.results31, go_sem, e0, e1, e2, e3, e4, e5, e6, e7, e8, e9, e10]) rfl ?_
                exact ⟨true, ⟨k, x1, x2, x3, hnd, set, rt, ri, [], x9, x10⟩, none, 0, rfl, HYN.out, .inl rfl, fun e => by simp at e, hfin.2⟩
              · have HRR8 : Hid (w8.heap[R]? = some (.cells (opR 0 0 0 0 0 false 0 0 (.slice none 0 0) 0 0) 28 (0, 0))) := keepH ((hC8.block R (Array.getElem?_eq_some_iff.1 HS7.out.rr).1 HS7.out.nr).trans HS7.out.rr)
                have HB8 : Hid (Below W.heap.size W w8) := keepH (chg_bel HS7.out.bel HS7.out.lo hC8)
                have HLR := keepH HS7.out.lr
                have HKK := keepH hk
                have HLEN := keepH hlen
                clear hk hC8 hlen f0 f1 f2
                go_wp2_with (first | (refine wpList_store_row rfl 28 _ _ rfl R (opR 0 0 0 0 0 false 0 0 (.slice none 0 0) 0 0) rfl rfl 28 (opR 0 0 0 0 0 false 0 0 (.slice none 0 0) 0 0) HRR8.out (by kernel_rfl) rfl (by simp [Value.oneCell']) ?_) | fail)
                have hrow := setRow_heap _ R _ (opR 0 0 0 0 0 false 0 0 (.slice none 0 0) 0 0) 28 (0, 0) HRR8.out
                have e0 := cell_of hrow 0
                have e1 := cell_of hrow 1
                have e2 := cell_of hrow 2
                have e3 := cell_of hrow 3
                have e4 := cell_of hrow 4
                have e5 := cell_of hrow 5
                have e6 := cell_of hrow 6
                have e7 := cell_of hrow 7
                have e8 := cell_of hrow 8
                have e9 := cell_of hrow 9
                have e10 := cell_of hrow 10
                simp at e0 e1 e2 e3 e4 e5 e6 e7 e8 e9 e10
                refine bodyPost_ret (v := .tuple #[.agg (opR 0 0 0 0 0 false 0 0 (.slice none 0 0) 0 0), .bool false]) (by simp [results, Tryz.results31, go_sem, e0, e1, e2, e3, e4, e5, e6, e7, e8, e9, e10]) rfl ?_
                exact ⟨false, zeroO, none, 0, rfl, pq_no (no_len HHK.out HHP.out HSP.out HMM.out HKK.out HLEN.out), .inl rfl, fun _ => rfl, below_setRow HB8.out HLR.out _⟩
            · have HS7 := keepH (HPS.out.on B7)
              have HMM := keepH hmm
              clear B7 hmm
              go_wp2_with (first | (refine wpList_store_row rfl 28 _ _ rfl R (opR 0 0 0 0 0 false 0 0 (.slice none 0 0) 0 0) rfl rfl 28 (opR 0 0 0 0 0 false 0 0 (.slice none 0 0) 0 0) HS7.out.rr (by kernel_rfl) rfl (by simp [Value.oneCell']) ?_) | fail)
              have hfin := HS7.out.fin (opR 0 0 0 0 0 false 0 0 (.slice none 0 0) 0 0)
              have e0 := cell_of hfin.1 0
              have e1 := cell_of hfin.1 1
              have e2 := cell_of hfin.1 2
              have e3 := cell_of hfin.1 3
              have e4 := cell_of hfin.1 4
              have e5 := cell_of hfin.1 5
              have e6 := cell_of hfin.1 6
              have e7 := cell_of hfin.1 7
              have e8 := cell_of hfin.1 8
              have e9 := cell_of hfin.1 9
              have e10 := cell_of hfin.1 10
              simp at e0 e1 e2 e3 e4 e5 e6 e7 e8 e9 e10
              refine bodyPost_ret (v := .tuple #[.agg (opR 0 0 0 0 0 false 0 0 (.slice none 0 0) 0 0), .bool false]) (by simp [results, Tryz.results31, go_sem, e0, e1, e2, e3, e4, e5, e6, e7, e8, e9, e10]) rfl ?_
              exact ⟨false, zeroO, none, 0, rfl, pq_no (no_nums HHK.out HHP.out HSP.out HMM.out), .inl rfl, fun _ => rfl, hfin.2⟩
  · have HNK := keepH hno
    have HE : Hid (∃ (P F : Nat) (row fr : Array Value) (pv : Value) (ns : List Nat), True) := keepH ⟨0, 0, #[], #[], .nilIface, [], trivial⟩
    clear hno
    go_wp2_with (first | (refine wpList_store_row rfl 28 _ _ rfl R (opR 0 0 0 0 0 false 0 0 (.slice none 0 0) 0 0) rfl rfl 28 (opR 0 0 0 0 0 false 0 0 (.slice none 0 0) 0 0) HX2.out (by kernel_rfl) rfl (by simp [Value.oneCell']) ?_) | fail)
    have hrow := setRow_heap _ R _ (opR 0 0 0 0 0 false 0 0 (.slice none 0 0) 0 0) 28 (0, 0) HX2.out
    have e0 := cell_of hrow 0
    have e1 := cell_of hrow 1
    have e2 := cell_of hrow 2
    have e3 := cell_of hrow 3
    have e4 := cell_of hrow 4
    have e5 := cell_of hrow 5
    have e6 := cell_of hrow 6
    have e7 := cell_of hrow 7
    have e8 := cell_of hrow 8
    have e9 := cell_of hrow 9
    have e10 := cell_of hrow 10
    simp at e0 e1 e2 e3 e4 e5 e6 e7 e8 e9 e10
    refine bodyPost_ret (v := .tuple #[.agg (opR 0 0 0 0 0 false 0 0 (.slice none 0 0) 0 0), .bool false]) (by simp [results, Tryz.results31, go_sem, e0, e1, e2, e3, e4, e5, e6, e7, e8, e9, e10]) rfl ?_
    exact ⟨false, zeroO, none, 0, rfl, pq_no (no_kind HNK.out HSP0.out), .inl rfl, fun _ => rfl, below_setRow HB2.out HLR.out _⟩
end Go.Proofs.YtmmaniolaljjlaaGreatDoor
