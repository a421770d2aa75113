/- A handle that is read, by the document: a text that begins with '@'. (mkSdh.py) -/
import Derived.Test.YtmmaniolaljjlaaGreatDoorSdg
namespace Go.Proofs.YtmmaniolaljjlaaGreatDoor
open Go.RowKit Go.Shelf
set_option linter.unusedVariables false

theorem cut_l (t : List UInt8) (f : Nat) (h : f ≤ t.length) (w : World) : (Instr.slice 9 (.string (mkS t)) (some (.int .i64 (f : Int))) none none).run Tryz.prog w = .ok (.string (mkS (t.drop f))) w := by
  have hs := mkS_size t
  rw [run_slice_string_l w 9 (mkS t) Tryz.underlying9 .i64 (f : Int) (by omega) (by omega)]
  rw [hs, show ((f : Int)).toNat = f by omega, mkS_extract, List.take_of_length_le (by simp)]
theorem dot_cut {r : List UInt8} {n : Nat} (h1 : 1 ≤ n) (h : (64 :: r)[n]? = some 46) : r = r.take (n - 1) ++ 46 :: r.drop n := by
  obtain ⟨m, rfl⟩ : ∃ m, n = m + 1 := ⟨n - 1, by omega⟩
  rw [List.getElem?_cons_succ] at h
  obtain ⟨hm, e⟩ := List.getElem?_eq_some_iff.1 h
  rw [Nat.add_sub_cancel, ← e, ← List.drop_eq_getElem_cons hm, List.take_append_drop]
theorem dot_more {r : List UInt8} {n : Nat} (h1 : 1 ≤ n) (hl : n < (64 :: r).length) (hb : noB 46 (r.take (n - 1))) (h : ¬ (64 :: r)[n]? = some 46) : noB 46 (r.take (n + 1 - 1)) := by
  obtain ⟨m, rfl⟩ : ∃ m, n = m + 1 := ⟨n - 1, by omega⟩
  rw [List.getElem?_cons_succ] at h
  have hm : m < r.length := by simp at hl; omega
  rw [Nat.add_sub_cancel] at hb ⊢
  rw [List.take_add_one, List.getElem?_eq_getElem hm] at *
  intro x hx
  rcases List.mem_append.1 hx with hx | hx
  · exact hb x hx
  · simp at hx
    intro e
    exact h (by rw [← hx, e])
set_option maxRecDepth 100000 in
set_option maxHeartbeats 4000000 in
theorem ref_at (k : Nat) (r : List UInt8) (hf : (64 :: r).length ≤ 200000000) (W : World) (T : Tb W) :
    Calls Tryz.prog 33 #[.agg (opR k 0 0 0 0 false 0 0 (.slice none 0 0) 0 0), .string (mkS (64 :: r))] W (RefQ W k (64 :: r)) := by
  obtain ⟨w2, hw2⟩ : ∃ w2, w2 = (W.alloc (.cells (opR k 0 0 0 0 false 0 0 (.slice none 0 0) 0 0) 28)).alloc (.cells (opR 0 0 0 0 0 false 0 0 (.slice none 0 0) 0 0) 28) := ⟨_, rfl⟩
  obtain ⟨P, hP⟩ : ∃ P, P = W.heap.size := ⟨_, rfl⟩
  obtain ⟨R, hR⟩ : ∃ R, R = W.heap.size + 1 := ⟨_, rfl⟩
  have hS2 : RF W P R (opR k 0 0 0 0 false 0 0 (.slice none 0 0) 0 0) w2 := by
    rw [hw2, hP, hR]
    refine ⟨?_, ?_, (below_alloc _ _).trans ((below_alloc _ _).mono (by simp)), Nat.le_refl _, by omega, by omega⟩
    · rw [Below.heap_alloc _ _ _ (by simp)]
      exact heap_alloc_new _ _
    · have := heap_alloc_new (W.alloc (.cells (opR k 0 0 0 0 false 0 0 (.slice none 0 0) 0 0) 28)) (.cells (opR 0 0 0 0 0 false 0 0 (.slice none 0 0) 0 0) 28)
      simpa using this
  obtain ⟨w3, hw3⟩ : ∃ w3, w3 = w2.setCell ⟨P, 5, none⟩ (.bool true) := ⟨_, rfl⟩
  have HS3 : Hid (RF W P R (opR k 0 0 0 0 true 0 0 (.slice none 0 0) 0 0) w3) := keepH (by rw [hw3]; exact hS2.set 5 _)
  have HW3 := keepH hw3
  have HS2 := keepH hS2
  have HW2 := keepH hw2
  have HP := keepH hP
  have HR := keepH hR
  have hrl : r.length + 1 ≤ 200000000 := by simpa using hf
  have HA := keepH (fun f (hl : f.length ≤ r.length) w (hb : Below W.heap.size W w) => atoi_each f (by omega) w (T.on hb))
  obtain ⟨x0, hx0, hxi0⟩ := idx_str (64 :: r) 0 (by simp) 64
  have e64 : x0 = 64 := hxi0.2 rfl
  subst e64
  have hx0' : ∀ W, (Instr.index 9 (.string (mkS (64 :: r))) (.int .i64 0)).run Tryz.prog W = .ok (.int .u8 64) W := fun W => hx0 W
  have hix := fun n hn => idx_str (64 :: r) n hn 46
  have hcm0 : ∀ (n : Nat) (h1 : 1 ≤ n) (h2 : n ≤ r.length + 1), ∀ w, (Instr.slice 9 (.string (mkS (64 :: r))) (some (.int .i64 1)) (some (.int .i64 (n : Int))) none).run Tryz.prog w = .ok (.string (mkS (r.take (n - 1)))) w := fun n h1 h2 w => cut_m (64 :: r) 1 n h1 (by simpa using h2) w
  have hcl0 : ∀ (n : Nat) (h2 : n ≤ r.length + 1), ∀ w, 1 ≤ n → (Instr.slice 9 (.string (mkS (64 :: r))) (some (.int .i64 (n : Int))) none none).run Tryz.prog w = .ok (.string (mkS (r.drop (n - 1)))) w := fun n h2 w h1 => by
    have := cut_l (64 :: r) n (by simpa using h2) w
    obtain ⟨m, rfl⟩ : ∃ m, n = m + 1 := ⟨n - 1, by omega⟩
    simpa using this
  have hcl1 : ∀ (n : Nat) (h2 : n ≤ r.length + 1 ∧ 1 ≤ n), ∀ w, (Instr.slice 9 (.string (mkS (64 :: r))) (some (.int .i64 (n : Int))) none none).run Tryz.prog w = .ok (.string (mkS (r.drop (n - 1)))) w := fun n h2 w => hcl0 n h2.1 w h2.2
  have HX := keepH hix
  have HC := keepH hcm0
  have HD := keepH hcl1
  have hsz : (mkS (64 :: r)).size = r.length + 1 := by rw [mkS_size]; simp
  obtain ⟨s, hs⟩ : ∃ s, s = mkS (64 :: r) := ⟨_, rfl⟩
  rw [← hs] at HX HC HD hsz hx0' ⊢
  obtain ⟨N, hN⟩ : ∃ N, N = r.length + 1 := ⟨_, rfl⟩
  rw [← hN] at hsz
  have HN := keepH hN
  have hNb : N ≤ 200000000 := by omega
  have z0 : ((N : Int) == 0) = false := by rw [hN]; simp; omega
  clear hs hx0 hxi0 hix hcm0 hcl0 hcl1 hS2 hw2 hw3 hP hR T hf hN hrl
  go_enter Tryz.func33, Tryz.ntmps33
  go_upto_region 4 with fail
  rw [show (W.alloc (.cells (opR k 0 0 0 0 false 0 0 (.slice none 0 0) 0 0) 28)).alloc (.cells #[.int .u8 0, .int .u64 0, .int .u64 0, .int .u64 0, .int .u64 0, .bool false, .int .i64 0, .int .i64 0, .slice none 0 0, .int .u64 0, .int .u64 0] 28) = w2 from HW2.out.symm, ← HR.out, ← HP.out]
  go_wp2_with fail
  go_loopw [5] (fun i wr => ∃ n : Nat, 1 ≤ n ∧ n ≤ N ∧ i = .int .i64 (n : Int) ∧ Hid (noB 46 (r.take (n - 1))) ∧ w2 = wr) (fun i _ => N - (intOf i).toNat)
  case atStart => exact ⟨1, by omega, by have := HN.out; omega, rfl, keepH (by simpa using noB_nil 46), rfl⟩
  case round =>
    obtain ⟨n, hn1, hnN, rfl, HNB, rfl⟩ := hrel
    by_cases hlt : n < N
    · have t1 : (n : Int) < (N : Int) := by omega
      have t0 : (0 : Int) ≤ (n : Int) := by omega
      have qw : IntKind.i64.wrap ((n : Int) + 1) = ((n + 1 : Nat) : Int) := by rw [IntKind.wrap_i64]; omega
      obtain ⟨x, hx, hxi⟩ := HX.out n (by have := HN.out; simp; omega)
      by_cases h46 : (64 :: r)[n]? = some 46
      · have e46 : x = 46 := hxi.2 h46
        subst e46
        clear hxi
        have hx' : ∀ W, (Instr.index 9 (.string s) (.int .i64 (n : Int))).run Tryz.prog W = .ok (.int .u8 46) W := fun W => hx W
        clear hx
        have hcm := HC.out n (by omega) (by have := HN.out; omega)
        obtain ⟨l, hl⟩ : ∃ l, l = r.take (n - 1) := ⟨_, rfl⟩
        rw [← hl] at hcm
        have HAT := keepH (HA.out l (by rw [hl]; have h1 := List.length_take (i := n - 1) (l := r); omega) w3 HS3.out.bel)
        obtain ⟨sl, hsl⟩ : ∃ s, s = mkS l := ⟨_, rfl⟩
        rw [← hsl] at hcm HAT
        have HL := keepH hl
        have hcl := HD.out (n + 1) (by have := HN.out; omega)
        obtain ⟨q, hq⟩ : ∃ q, q = r.drop n := ⟨_, rfl⟩
        rw [show n + 1 - 1 = n by omega, ← hq, show ((n + 1 : Nat) : Int) = (n : Int) + 1 by omega] at hcl
        have HCP : Hid (CutP r l q) := keepH (.inl ⟨by rw [hl, hq]; exact dot_cut hn1 h46, by rw [hl]; exact HNB.out⟩)
        obtain ⟨sq, hsq⟩ : ∃ s, s = mkS q := ⟨_, rfl⟩
        have HAQ0 := keepH (fun w (hb : Below W.heap.size W w) => HA.out q (by rw [hq]; have := List.length_drop (l := r) (i := n); omega) w hb)
        rw [← hsq] at hcl HAQ0
        clear hq hsq
        clear hl hsl
        have p5 : w2.cell? ⟨P, 5, none⟩ = _ := cell_of HS2.out.bx 5
        have q5 : w2.frozen? ⟨P, 5, none⟩ = false := free_of HS2.out.bx 5
        go_upto_region 8 with fail
        rw [← HW3.out]
        clear p5 q5
        go_wp2_with fail
        refine HAT.out.mono ?_
        rintro e w4 ⟨v, rfl, ⟨x, px, rfl, hxr, hxz⟩, B4⟩
        have HS4 := keepH (HS3.out.on B4)
        have p6 : w4.cell? ⟨P, 6, none⟩ = _ := cell_of HS4.out.bx 6
        have q6 : w4.frozen? ⟨P, 6, none⟩ = false := free_of HS4.out.bx 6
        obtain ⟨w5, hw5⟩ : ∃ w5, w5 = w4.setCell ⟨P, 6, none⟩ (.int .i64 x) := ⟨_, rfl⟩
        have HS5 : Hid (RF W P R (opR k 0 0 0 0 true x 0 (.slice none 0 0) 0 0) w5) := keepH (by rw [hw5]; exact HS4.out.set 6 _)
        have HW5 := keepH hw5
        have HXR := keepH hxr
        have HXZ := keepH hxz
        clear hw5 hxr hxz B4
        go_upto_region 9 with fail
        rw [← HW5.out]
        clear p6 q6
        have HAQ := keepH (HAQ0.out w5 HS5.out.bel)
        go_wp2_with fail
        refine HAQ.out.mono ?_
        rintro e w6 ⟨v, rfl, ⟨y, py, rfl, hyr, hyz⟩, B6⟩
        have HS6 := keepH (HS5.out.on B6)
        have p7 : w6.cell? ⟨P, 7, none⟩ = _ := cell_of HS6.out.bx 7
        have q7 : w6.frozen? ⟨P, 7, none⟩ = false := free_of HS6.out.bx 7
        obtain ⟨w7, hw7⟩ : ∃ w7, w7 = w6.setCell ⟨P, 7, none⟩ (.int .i64 y) := ⟨_, rfl⟩
        have HS7 : Hid (RF W P R (opR k 0 0 0 0 true x y (.slice none 0 0) 0 0) w7) := keepH (by rw [hw7]; exact HS6.out.set 7 _)
        have HW7 := keepH hw7
        have HYR := keepH hyr
        have HYZ := keepH hyz
        clear hw7 hyr hyz B6
        go_upto_region 11 with fail
        rw [← HW7.out]
        clear p7 q7
        have d0 : w7.cell? ⟨P, 0, none⟩ = _ := cell_of HS7.out.bx 0
        have d1 : w7.cell? ⟨P, 1, none⟩ = _ := cell_of HS7.out.bx 1
        have d2 : w7.cell? ⟨P, 2, none⟩ = _ := cell_of HS7.out.bx 2
        have d3 : w7.cell? ⟨P, 3, none⟩ = _ := cell_of HS7.out.bx 3
        have d4 : w7.cell? ⟨P, 4, none⟩ = _ := cell_of HS7.out.bx 4
        have d5 : w7.cell? ⟨P, 5, none⟩ = _ := cell_of HS7.out.bx 5
        have d6 : w7.cell? ⟨P, 6, none⟩ = _ := cell_of HS7.out.bx 6
        have d7 : w7.cell? ⟨P, 7, none⟩ = _ := cell_of HS7.out.bx 7
        have d8 : w7.cell? ⟨P, 8, none⟩ = _ := cell_of HS7.out.bx 8
        have d9 : w7.cell? ⟨P, 9, none⟩ = _ := cell_of HS7.out.bx 9
        have d10 : w7.cell? ⟨P, 10, none⟩ = _ := cell_of HS7.out.bx 10
        go_wp2_with (first | (refine wpList_store_row rfl 28 _ _ rfl R (opR k 0 0 0 0 true x y (.slice none 0 0) 0 0) rfl rfl 28 (opR 0 0 0 0 0 false 0 0 (.slice none 0 0) 0 0) HS7.out.rr (by kernel_rfl) rfl (by simp [Value.oneCell']) ?_) | fail)
        have hrow := setRow_heap _ R _ (opR k 0 0 0 0 true x y (.slice none 0 0) 0 0) 28 (0, 0) HS7.out.rr
        have e0 := cell_of hrow 0
        have e1 := cell_of hrow 1
        have e2 := cell_of hrow 2
        have e3 := cell_of hrow 3
        have e4 := cell_of hrow 4
        have e5 := cell_of hrow 5
        have e6 := cell_of hrow 6
        have e7 := cell_of hrow 7
        have e8 := cell_of hrow 8
        have e9 := cell_of hrow 9
        have e10 := cell_of hrow 10
        simp at e0 e1 e2 e3 e4 e5 e6 e7 e8 e9 e10
        refine bodyPost_ret (v := .agg (opR k 0 0 0 0 true x y (.slice none 0 0) 0 0)) (by simp [results, Tryz.results33, go_sem, e0, e1, e2, e3, e4, e5, e6, e7, e8, e9, e10]) rfl ?_
        exact ⟨0, true, x, y, rfl, rf_ref HCP.out HXR.out HYR.out HXZ.out HYZ.out, below_setRow HS7.out.bel HS7.out.lr _⟩
      · have HNX := keepH (dot_more hn1 (by have := HN.out; simp; omega) HNB.out h46)
        have q46 : ¬ ((x : Nat) : Int) = 46 := fun q => h46 (hxi.1 (by rw [show (46 : UInt8).toNat = 46 from rfl]; omega))
        have u46 : ((x : Int) != 46) = true := by simpa using q46
        clear hxi h46
        go_wp2_with fail
        go_roundw
        case rel => exact ⟨n + 1, by omega, by omega, by first | rfl | go_num, HNX, by first | rfl | trivial⟩
        case measure => simp [intOf]; omega
    · obtain rfl : n = N := by omega
      have t1 : ¬ (n : Int) < (n : Int) := by omega
      have HNR : Hid (noB 46 r) := keepH (by have := HNB.out; rw [HN.out, Nat.add_sub_cancel, List.take_of_length_le (Nat.le_refl _)] at this; exact this)
      have HLR : Hid (r.take (n - 1) = r) := keepH (by rw [HN.out, Nat.add_sub_cancel, List.take_of_length_le (Nat.le_refl _)])
      have hcm := HC.out n (by omega) (by have := HN.out; omega)
      obtain ⟨l, hl⟩ : ∃ l, l = r.take (n - 1) := ⟨_, rfl⟩
      rw [← hl] at hcm
      have HAT := keepH (HA.out l (by rw [hl]; have h1 := List.length_take (i := n - 1) (l := r); omega) w3 HS3.out.bel)
      obtain ⟨sl, hsl⟩ : ∃ s, s = mkS l := ⟨_, rfl⟩
      rw [← hsl] at hcm HAT
      have HL := keepH hl
      clear hl hsl
      have p5 : w2.cell? ⟨P, 5, none⟩ = _ := cell_of HS2.out.bx 5
      have q5 : w2.frozen? ⟨P, 5, none⟩ = false := free_of HS2.out.bx 5
      go_upto_region 8 with fail
      rw [← HW3.out]
      clear p5 q5
      go_wp2_with fail
      refine HAT.out.mono ?_
      rintro e w4 ⟨v, rfl, ⟨x, px, rfl, hxr, hxz⟩, B4⟩
      have HS4 := keepH (HS3.out.on B4)
      have p6 : w4.cell? ⟨P, 6, none⟩ = _ := cell_of HS4.out.bx 6
      have q6 : w4.frozen? ⟨P, 6, none⟩ = false := free_of HS4.out.bx 6
      obtain ⟨w5, hw5⟩ : ∃ w5, w5 = w4.setCell ⟨P, 6, none⟩ (.int .i64 x) := ⟨_, rfl⟩
      have HS5 : Hid (RF W P R (opR k 0 0 0 0 true x 0 (.slice none 0 0) 0 0) w5) := keepH (by rw [hw5]; exact HS4.out.set 6 _)
      have HW5 := keepH hw5
      have HXR := keepH hxr
      have HXZ := keepH hxz
      clear hw5 hxr hxz B4
      go_upto_region 9 with fail
      rw [← HW5.out]
      clear p6 q6
      have d0 : w5.cell? ⟨P, 0, none⟩ = _ := cell_of HS5.out.bx 0
      have d1 : w5.cell? ⟨P, 1, none⟩ = _ := cell_of HS5.out.bx 1
      have d2 : w5.cell? ⟨P, 2, none⟩ = _ := cell_of HS5.out.bx 2
      have d3 : w5.cell? ⟨P, 3, none⟩ = _ := cell_of HS5.out.bx 3
      have d4 : w5.cell? ⟨P, 4, none⟩ = _ := cell_of HS5.out.bx 4
      have d5 : w5.cell? ⟨P, 5, none⟩ = _ := cell_of HS5.out.bx 5
      have d6 : w5.cell? ⟨P, 6, none⟩ = _ := cell_of HS5.out.bx 6
      have d7 : w5.cell? ⟨P, 7, none⟩ = _ := cell_of HS5.out.bx 7
      have d8 : w5.cell? ⟨P, 8, none⟩ = _ := cell_of HS5.out.bx 8
      have d9 : w5.cell? ⟨P, 9, none⟩ = _ := cell_of HS5.out.bx 9
      have d10 : w5.cell? ⟨P, 10, none⟩ = _ := cell_of HS5.out.bx 10
      go_wp2_with (first | (refine wpList_store_row rfl 28 _ _ rfl R (opR k 0 0 0 0 true x 0 (.slice none 0 0) 0 0) rfl rfl 28 (opR 0 0 0 0 0 false 0 0 (.slice none 0 0) 0 0) HS5.out.rr (by kernel_rfl) rfl (by simp [Value.oneCell']) ?_) | fail)
      have hrow := setRow_heap _ R _ (opR k 0 0 0 0 true x 0 (.slice none 0 0) 0 0) 28 (0, 0) HS5.out.rr
      have e0 := cell_of hrow 0
      have e1 := cell_of hrow 1
      have e2 := cell_of hrow 2
      have e3 := cell_of hrow 3
      have e4 := cell_of hrow 4
      have e5 := cell_of hrow 5
      have e6 := cell_of hrow 6
      have e7 := cell_of hrow 7
      have e8 := cell_of hrow 8
      have e9 := cell_of hrow 9
      have e10 := cell_of hrow 10
      simp at e0 e1 e2 e3 e4 e5 e6 e7 e8 e9 e10
      refine bodyPost_ret (v := .agg (opR k 0 0 0 0 true x 0 (.slice none 0 0) 0 0)) (by simp [results, Tryz.results33, go_sem, e0, e1, e2, e3, e4, e5, e6, e7, e8, e9, e10]) rfl ?_
      exact ⟨0, true, x, 0, rfl, rf_ref (.inr ⟨HNR.out, rfl, rfl⟩) HXR.out ⟨by omega, by omega⟩ (by have h := HXZ.out; rw [HL.out, HLR.out] at h; exact h) (fun z hz => by cases hz), below_setRow HS5.out.bel HS5.out.lr _⟩
theorem ref_any (k : Nat) (f : List UInt8) (hf : f.length ≤ 200000000) (W : World) (T : Tb W) :
    Calls Tryz.prog 33 #[.agg (opR k 0 0 0 0 false 0 0 (.slice none 0 0) 0 0), .string (mkS f)] W (RefQ W k f) := by
  by_cases h : f.head? = some 64
  · cases f with
    | nil => simp at h
    | cons c r =>
      simp at h
      subst h
      exact ref_at k r hf W T
  · exact ref_nat k f hf h W T
end Go.Proofs.YtmmaniolaljjlaaGreatDoor
