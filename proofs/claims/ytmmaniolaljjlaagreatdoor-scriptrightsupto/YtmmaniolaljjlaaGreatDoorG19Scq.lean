/- A copy of a script in memory of its own, by the document. (mkSeu.py) -/
import Derived.Test.YtmmaniolaljjlaaGreatDoorG18Set
import Derived.Deep.RegionHeld
import Derived.Test.YtmmaniolaljjlaaGreatDoorG12Sct
import Derived.Laws.Tables
namespace Go.Proofs.YtmmaniolaljjlaaGreatDoor
open Go.RowKit Go.Shelf Go.Maps
set_option linter.unusedVariables false

theorem row_form {W : World} {e : TypeId} {s n : Nat} {v : Value} {xs : List Value} (h : W.ownsRow 0 e s v n xs) : ∃ p c, v = .slice p n c := by
  rcases h.2 with ⟨hv, h0⟩ | ⟨g, cap, cur, hv, _⟩
  · exact ⟨none, 0, by rw [hv, h0]⟩
  · exact ⟨_, cap, hv⟩
set_option maxRecDepth 100000 in
set_option maxHeartbeats 8000000 in
theorem dCopy_any (ce sl : Int) (stp : Nat) (mu : Int) (tp : Option Addr) (tc : Nat) (pp : Option Addr) (pc : Nat) (ts : List (List Opx)) (ps : List Int) (hS : SOk ts ps) (W : World) (hT : TRd W tp ts) (hP : IRd W pp ps) :
    Calls Tryz.prog 15 #[.agg (scR ce sl stp mu (.slice tp ts.length tc) (.slice pp ps.length pc))] W fun e W' => ∃ tp' tc' pp' pc', e = .returned (.agg (scR ce sl stp mu (.slice tp' ts.length tc') (.slice pp' ps.length pc'))) ∧ TRd W' tp' ts ∧ IRd W' pp' ps ∧ ps.length ≤ pc' ∧ Below W.heap.size W W' := by
  obtain ⟨i0, hi0, hz0, hz1, hz2⟩ := info_parts infoOps
  have HI0 := keepH hi0
  obtain ⟨i1, hi1, hy0, hy1, hy2⟩ := info_parts infoOp
  have HI1 := keepH hi1
  clear hi0 hi1
  obtain ⟨n, hn⟩ : ∃ n, n = ts.length := ⟨_, rfl⟩
  obtain ⟨m, hm⟩ : ∃ m, m = ps.length := ⟨_, rfl⟩
  have hn1 := hS.tl
  have hm1 := hS.pl
  rw [← hn] at hn1
  rw [← hm] at hm1
  rw [← hn, ← hm]
  obtain ⟨row, hrow⟩ : ∃ row, row = (scR ce sl stp mu (.slice tp n tc) (.slice pp m pc)) := ⟨_, rfl⟩
  obtain ⟨zr, hzr⟩ : ∃ zr, zr = (scR 0 0 0 0 (.slice none 0 0) (.slice none 0 0)) := ⟨_, rfl⟩
  obtain ⟨w1, hw1⟩ : ∃ w1, w1 = (W.alloc (.cells (scR ce sl stp mu (.slice tp n tc) (.slice pp m pc)) 46)).alloc (.cells (scR 0 0 0 0 (.slice none 0 0) (.slice none 0 0)) 46) := ⟨_, rfl⟩
  obtain ⟨w2, hw2⟩ : ∃ w2, w2 = w1.alloc (.cells (scR ce sl stp mu (.slice none 0 0) (.slice none 0 0)) 46) := ⟨_, rfl⟩
  obtain ⟨P, hPP⟩ : ∃ P, P = W.heap.size := ⟨_, rfl⟩
  obtain ⟨R, hRR⟩ : ∃ R, R = W.heap.size + 1 := ⟨_, rfl⟩
  obtain ⟨O, hOO⟩ : ∃ O, O = w1.heap.size := ⟨_, rfl⟩
  have s1 : w1.heap.size = W.heap.size + 2 := by rw [hw1]; simp
  have B1 : Below W.heap.size W w1 := by rw [hw1]; exact (below_alloc _ _).trans ((below_alloc _ _).mono (by simp))
  have B2 : Below w1.heap.size w1 w2 := by rw [hw2]; exact below_alloc _ _
  have X1 : w1.heap[P]? = some (.cells (scR ce sl stp mu (.slice tp n tc) (.slice pp m pc)) 46 (0, 0)) := by
    rw [hw1, hPP, Below.heap_alloc _ _ _ (by simp)]
    exact heap_alloc_new _ _
  have Y1 : w1.heap[R]? = some (.cells (scR 0 0 0 0 (.slice none 0 0) (.slice none 0 0)) 46 (0, 0)) := by
    rw [hw1, hRR]
    have := heap_alloc_new (W.alloc (.cells (scR ce sl stp mu (.slice tp n tc) (.slice pp m pc)) 46)) (.cells (scR 0 0 0 0 (.slice none 0 0) (.slice none 0 0)) 46)
    simpa using this
  have O2 : w2.heap[O]? = some (.cells (scR ce sl stp mu (.slice none 0 0) (.slice none 0 0)) 46 (0, 0)) := by rw [hw2, hOO]; exact heap_alloc_new _ _
  obtain ⟨pv, w3, hrun, hprow, hgr, hpo⟩ := app_nilI w2 pp pc ps hS.pl (hP.on (below_chain B1 B2)) 44
  rw [← hm] at hrun hprow
  obtain ⟨pq, pd, hpf⟩ := row_form hprow
  subst hpf
  have C3 := bel_grown hgr
  have O3 := heap_below O2 C3
  obtain ⟨w4, hw4⟩ : ∃ w4, w4 = w3.setCell ⟨O, 5, none⟩ (.slice pq m pd) := ⟨_, rfl⟩
  have HC4 : Hid (CB W P O R row zr ce sl stp mu (.slice pq m pd) (.slice none 0 0) ps [] w4) := keepH (by
    have hO1 : O < w2.heap.size := (Array.getElem?_eq_some_iff.1 O2).1
    rw [hw4, hrow, hzr]
    refine ⟨(below_chain (below_chain B1 B2) C3).setCell (by show W.heap.size ≤ O; omega) _, other_of (heap_below (heap_below X1 B2) C3) (by omega) _, set_of O3 5 _, other_of (heap_below (heap_below Y1 B2) C3) (by omega) _, ?_, ⟨[], rfl, World.ownsRow_nil _ _ _ _, fun b hb => by simp [Value.ownBlock] at hb, fun i l v h => by simp at h⟩, by omega, by omega, by omega, by omega⟩
    rw [← hm]
    exact row_kept hprow fun k hk => Below.heap_setCell _ _ _ _ (fun e => by
      obtain ⟨cur, hcur⟩ := row_block hprow k hk
      have e2 : k = O := e
      rw [e2, O3] at hcur
      injection hcur with hcur
      injection hcur with _ h9
      exact absurd h9 (by decide)))
  have HPR : Hid (P ≠ R) := keepH (by omega)
  have HRUN := keepH hrun
  have HROW := keepH hrow
  have HZR := keepH hzr
  have HW1 := keepH hw1
  have HW2 := keepH hw2
  have HW4 := keepH hw4
  have HP := keepH hPP
  have HR := keepH hRR
  have HO := keepH hOO
  have HN := keepH hn
  have HM := keepH hm
  have HS := keepH hS
  have HT := keepH hT
  have d0 : w1.cell? ⟨P, 0, none⟩ = _ := cell_of X1 0
  have d1 : w1.cell? ⟨P, 1, none⟩ = _ := cell_of X1 1
  have d2 : w1.cell? ⟨P, 2, none⟩ = _ := cell_of X1 2
  have d3 : w1.cell? ⟨P, 3, none⟩ = _ := cell_of X1 3
  have d4 : w1.cell? ⟨P, 4, none⟩ = _ := cell_of X1 4
  have d5 : w1.cell? ⟨P, 5, none⟩ = _ := cell_of X1 5
  have o5 : w2.cell? ⟨O, 5, none⟩ = _ := cell_of O2 5
  have b5 : w2.cell? ⟨P, 5, none⟩ = some (.slice pp m pc) := cell_of (heap_below X1 B2) 5
  have c5 : w3.cell? ⟨O, 5, none⟩ = _ := cell_of O3 5
  have f5 := free_of O3 5
  clear hrow hzr hw1 hw2 hw4 hPP hRR hOO hn hm hS hT hP B1 B2 X1 Y1 O2 O3 C3 hrun hprow hgr hpo s1
  go_enter Tryz.func15, Tryz.ntmps15
  go_upto_region 1 with fail
  rw [show (W.alloc (.cells (scR ce sl stp mu (.slice tp n tc) (.slice pp m pc)) 46)).alloc (.cells #[.int .i64 0, .int .i64 0, .int .u64 0, .int .i64 0, .slice none 0 0, .slice none 0 0] 46) = w1 from HW1.out.symm, ← HR.out, ← HP.out]
  go_upto_region 2 with fail
  rw [show w1.alloc (.cells #[.int .i64 ce, .int .i64 sl, .int .u64 (stp : Int), .int .i64 mu, .slice none 0 0, .slice none 0 0] 46) = w2 from HW2.out.symm, ← HO.out]
  clear d0 d1 d2 d3 d4 d5
  go_wp2_with (first | (at_builtin; refine wpList_append_runS rfl (.tmp 12) (.tmp 14) 44 rfl _ _ _ _ rfl rfl HRUN.out ?_) | go_in)
  rw [← HW4.out]
  clear o5 b5 c5 f5 HRUN HW1 HW2 HW4 HP HR HO
  go_loopw [4, 5, 6, 7] (fun s4 s5 s6 s7 wr => ∃ i : Nat, i ≤ n ∧ s4 = .int .i64 (i : Int) ∧ Hid (∃ tv, CB W P O R row zr ce sl stp mu (.slice pq m pd) tv ps (ts.take i) wr)) (fun s4 _ _ _ _ => n - (intOf s4).toNat)
  case atStart => exact ⟨0, by omega, rfl, keepH ⟨_, by simpa using HC4.out⟩⟩
  case round =>
    clear HC4
    obtain ⟨i, hi, rfl, HI⟩ := hrel
    obtain ⟨tv, hcb⟩ := HI.out
    have HCB := keepH hcb
    clear hcb HI
    have p4 : wr.cell? ⟨P, 4, none⟩ = some (.slice tp n tc) := by have := cell_of HCB.out.box 4; rw [HROW.out] at this; exact this
    by_cases hlt : i < n
    · have q1 : (i : Int) < (n : Int) := by omega
      have q1n : i < n := hlt
      have q0 : (0 : Int) ≤ (i : Int) := by omega
      obtain ⟨l, hl⟩ : ∃ l, ts[i]? = some l := ⟨ts[i]'(by have := HN.out; omega), List.getElem?_eq_getElem _⟩
      obtain ⟨bk, off, lp, lc, rfl, hbk, hO, c0⟩ := (HT.out.on HCB.out.bel).get i l hl
      obtain ⟨k, hk⟩ : ∃ k, k = l.length := ⟨_, rfl⟩
      have hk1 := HS.out.ll l (List.mem_of_getElem? hl)
      rw [← hk] at c0 hk1
      have HX := keepH hl
      have HK := keepH hk
      have HO := keepH hO
      obtain ⟨wo, hwo⟩ : ∃ wo, wo = wr := ⟨_, rfl⟩
      subst hwo
      have HP4 : Hid (∀ w, Below wo.heap.size wo w → w.cell? ⟨P, 4, none⟩ = some (.slice (some ⟨bk, off, none⟩) n tc)) := keepH (fun w hb => cell_below p4 hb)
      have HC0 : Hid (∀ w, Below wo.heap.size wo w → w.cell? ⟨bk, off + i, none⟩ = some (.slice lp k lc)) := keepH (fun w hb => cell_below c0 hb)
      clear hl hk hbk hO
      go_wp2_with fail
      go_loopw [5, 6, 7] (fun s5 s6 s7 wr => ∃ j : Nat, j ≤ k ∧ s6 = .int .i64 (j : Int) ∧ Hid (Below wo.heap.size wo wr ∧ OB wo wr s5 (l.take j))) (fun _ s6 _ _ => k - (intOf s6).toNat)
      case atStart => exact ⟨0, by omega, rfl, keepH ⟨Below.refl _ _, by simpa using OB.nil _ _⟩⟩
      case round =>
        clear p4 c0
        obtain ⟨j, hj, rfl, HI⟩ := hrel
        have HBX := keepH HI.out.1
        have HOB := keepH HI.out.2
        clear HI
        have p4 := HP4.out wr HBX.out
        have c0 := HC0.out wr HBX.out
        by_cases hlj : j < k
        · have r1 : (j : Int) < (k : Int) := by omega
          have r1n : j < k := hlj
          have r0 : (0 : Int) ≤ (j : Int) := by omega
          obtain ⟨o, ho⟩ : ∃ o, l[j]? = some o := ⟨l[j]'(by have := HK.out; omega), List.getElem?_eq_getElem _⟩
          obtain ⟨xb, xo, kp, kc, rfl, hxb, hKR, a0, a1, a2, a3, a4, a5, a6, a7, a8, a9, a10⟩ := (HO.out.on HBX.out).get j o ho
          have hoo := HS.out.ok l (List.mem_of_getElem? HX.out) o (List.mem_of_getElem? ho)
          have HLT : Hid (l.take (j + 1) = l.take j ++ [o]) := keepH (by rw [List.take_add_one, ho]; rfl)
          obtain ⟨ok, key, val, old, hnd, set, rt, ri, keys, lo, hi2⟩ := o
          simp only at a0 a1 a2 a3 a4 a5 a6 a7 a8 a9 a10 hKR
          obtain ⟨w3, hw3⟩ : ∃ w3, w3 = wr.alloc (.cells (opR ok key val old hnd set rt ri (.slice kp keys.length kc) lo hi2) 28) := ⟨_, rfl⟩
          obtain ⟨D, hD⟩ : ∃ D, D = wr.heap.size := ⟨_, rfl⟩
          have C3 : Below wr.heap.size wr w3 := by rw [hw3]; exact below_alloc _ _
          have X3 : w3.heap[D]? = some (.cells (opR ok key val old hnd set rt ri (.slice kp keys.length kc) lo hi2) 28 (0, 0)) := by rw [hw3, hD]; exact heap_alloc_new _ _
          obtain ⟨w4, hw4⟩ : ∃ w4, w4 = w3.setCell ⟨D, 8, none⟩ (.slice none 0 0) := ⟨_, rfl⟩
          have C4 : Below wr.heap.size wr w4 := by rw [hw4]; exact C3.setCell (by show wr.heap.size ≤ D; omega) _
          have X4 : w4.drew.heap[D]? = some (.cells (opR ok key val old hnd set rt ri (.slice none 0 0) lo hi2) 28 (0, 0)) := by rw [hw4]; exact set_of X3 8 _
          have C4d : Below wr.heap.size wr w4.drew := below_drewN C4 1
          obtain ⟨kv, w5, hrun, hkrow, hgr, hko⟩ := app_nilK w4.drew kp kc keys hoo.2 (hKR.on C4d) 26
          have C45 := bel_grown hgr
          have C5 := below_chain C4d C45
          have X5 := heap_below X4 C45
          have hky5 : KyO wo w5 keys kv := ⟨hkrow, fun b hb => by
            have h1 := HBX.out.size
            have h2 := C4.size
            rcases hko with e | e
            · rw [e] at hb; cases hb
            · rw [e] at hb
              injection hb with hb
              rw [← hb]
              exact Nat.le_trans h1 h2⟩
          obtain ⟨kq, kd, hkf, -⟩ := hky5.form
          subst hkf
          obtain ⟨w6, hw6⟩ : ∃ w6, w6 = w5.setCell ⟨D, 8, none⟩ (.slice kq keys.length kd) := ⟨_, rfl⟩
          have C6 : Below wr.heap.size wr w6 := by rw [hw6]; exact C5.setCell (by show wr.heap.size ≤ D; omega) _
          have X6 : w6.heap[D]? = some (.cells (opR ok key val old hnd set rt ri (.slice kq keys.length kd) lo hi2) 28 (0, 0)) := by rw [hw6]; exact set_of X5 8 _
          have hky6 : KyO wo w6 keys (.slice kq keys.length kd) := ⟨row_kept hky5.1 fun b hb => by
            rw [hw6]
            refine Below.heap_setCell _ _ _ _ (fun e => ?_)
            obtain ⟨cur, hcur⟩ := row_block hky5.1 b hb
            have e2 : b = D := e
            rw [e2, X5] at hcur
            injection hcur with hcur
            injection hcur with _ h9
            exact absurd h9 (by decide), hky5.2⟩
          have HKY6 := keepH hky6
          have HOB6 := keepH (HOB.out.kept (Kp.bel C6))
          have HB6 := keepH (below_chain HBX.out C6)
          obtain ⟨nk, hnk⟩ : ∃ nk, nk = keys.length := ⟨_, rfl⟩
          have HNK := keepH hnk
          rw [← hnk] at a8 hw3 hrun hw6 X6
          have hall : ∀ w, Below wr.heap.size wr w → (fun w => (w.cell? ⟨P, 4, none⟩ = some (.slice (some ⟨bk, off, none⟩) n tc) ∧ w.cell? ⟨bk, off + i, none⟩ = some (.slice (some ⟨xb, xo, none⟩) k lc)) ∧ w.cell? ⟨xb, xo + j * 11 + 8, none⟩ = some (.slice kp nk kc)) w := fun w hb => ⟨⟨cell_below p4 hb, cell_below c0 hb⟩, cell_below a8 hb⟩
          have HK4 := keepH (hall w4.drew C4d)
          have HK5 := keepH (hall w5 C5)
          have HK6 := keepH (hall w6 C6)
          have HX4 := keepH X4
          have HX5 := keepH X5
          have HX6 := keepH X6
          have HRUN := keepH hrun
          have HW3 := keepH hw3
          have HW4 := keepH hw4
          have HW6 := keepH hw6
          have HD := keepH hD
          have x8 : w3.cell? ⟨D, 8, none⟩ = some (.slice kp nk kc) := by have := cell_of X3 8; rw [← hnk] at this; exact this
          have f8 := free_of X3 8
          clear ho hKR hxb hnk hoo hw3 hD C3 X3 hw4 C4 X4 C4d hrun hkrow hgr hko C45 C5 X5 hky5 hw6 C6 X6 hky6 hall
          go_upto_region 11 with fail
          rw [← HW3.out, ← HD.out]
          clear a0 a1 a2 a3 a4 a5 a6 a7 a9 a10
          go_upto_region 12 with fail
          rw [← HW4.out]
          clear x8 f8 p4 c0 a8
          refine wp_region_held_drew (S := fun w => (w.cell? ⟨P, 4, none⟩ = some (.slice (some ⟨bk, off, none⟩) n tc) ∧ w.cell? ⟨bk, off + i, none⟩ = some (.slice (some ⟨xb, xo, none⟩) k lc)) ∧ w.cell? ⟨xb, xo + j * 11 + 8, none⟩ = some (.slice kp nk kc)) (by kernel_rfl) (HK4.out) ?_
          intro hHeld
          refine wpAnyH_take (i := 0) (v := ?_) rfl (by kernel_rfl) (by kernel_rfl) (by kernel_rfl) (fun _ _ _ h => h) (Or.inl ⟨by rfl, ?_⟩) hHeld ?_
          rotate_left
          · intro w hSw
            (try dsimp only at hSw)
            go_simp
            try with_reducible rfl
          (try simp only [Act.put]); (try simp only [List.setIfInBounds_toArray]); (try simp only [List.getElem_toArray]); (repeat (first | simp only [List.getElem_cons_succ] | simp only [List.getElem_cons_zero])); (repeat (first | simp only [List.set_cons_succ] | simp only [List.set_cons_zero]))
          refine wpAnyH_take (i := 2) (v := ?_) rfl (by kernel_rfl) (by kernel_rfl) (by kernel_rfl) (fun _ _ _ h => h) (Or.inl ⟨by rfl, ?_⟩) hHeld ?_
          rotate_left
          · intro w hSw
            (try dsimp only at hSw)
            go_simp
            try with_reducible rfl
          (try simp only [Act.put]); (try simp only [List.setIfInBounds_toArray]); (try simp only [List.getElem_toArray]); (repeat (first | simp only [List.getElem_cons_succ] | simp only [List.getElem_cons_zero])); (repeat (first | simp only [List.set_cons_succ] | simp only [List.set_cons_zero]))
          refine wpAnyH_take (i := 3) (v := ?_) rfl (by kernel_rfl) (by kernel_rfl) (by kernel_rfl) (fun _ _ _ h => h) (Or.inl ⟨by rfl, ?_⟩) hHeld ?_
          rotate_left
          · intro w hSw
            (try dsimp only at hSw)
            have y0 := hSw.1.1
            go_simp
            try with_reducible rfl
          (try simp only [Act.put]); (try simp only [List.setIfInBounds_toArray]); (try simp only [List.getElem_toArray]); (repeat (first | simp only [List.getElem_cons_succ] | simp only [List.getElem_cons_zero])); (repeat (first | simp only [List.set_cons_succ] | simp only [List.set_cons_zero]))
          refine wpAnyH_take (i := 4) (v := ?_) rfl (by kernel_rfl) (by kernel_rfl) (by kernel_rfl) (fun _ _ _ h => h) (Or.inl ⟨by rfl, ?_⟩) hHeld ?_
          rotate_left
          · intro w hSw
            (try dsimp only at hSw)
            go_simp
            try with_reducible rfl
          (try simp only [Act.put]); (try simp only [List.setIfInBounds_toArray]); (try simp only [List.getElem_toArray]); (repeat (first | simp only [List.getElem_cons_succ] | simp only [List.getElem_cons_zero])); (repeat (first | simp only [List.set_cons_succ] | simp only [List.set_cons_zero]))
          refine wpAnyH_take (i := 5) (v := ?_) rfl (by kernel_rfl) (by kernel_rfl) (by kernel_rfl) (fun _ _ _ h => h) (Or.inl ⟨by rfl, ?_⟩) hHeld ?_
          rotate_left
          · intro w hSw
            (try dsimp only at hSw)
            go_simp
            try with_reducible rfl
          (try simp only [Act.put]); (try simp only [List.setIfInBounds_toArray]); (try simp only [List.getElem_toArray]); (repeat (first | simp only [List.getElem_cons_succ] | simp only [List.getElem_cons_zero])); (repeat (first | simp only [List.set_cons_succ] | simp only [List.set_cons_zero]))
          refine wpAnyH_take (i := 6) (v := ?_) rfl (by kernel_rfl) (by kernel_rfl) (by kernel_rfl) (fun _ _ _ h => h) (Or.inl ⟨by rfl, ?_⟩) hHeld ?_
          rotate_left
          · intro w hSw
            (try dsimp only at hSw)
            have y0 := hSw.1.2
            go_simp
            try with_reducible rfl
          (try simp only [Act.put]); (try simp only [List.setIfInBounds_toArray]); (try simp only [List.getElem_toArray]); (repeat (first | simp only [List.getElem_cons_succ] | simp only [List.getElem_cons_zero])); (repeat (first | simp only [List.set_cons_succ] | simp only [List.set_cons_zero]))
          refine wpAnyH_take (i := 7) (v := ?_) rfl (by kernel_rfl) (by kernel_rfl) (by kernel_rfl) (fun _ _ _ h => h) (Or.inl ⟨by rfl, ?_⟩) hHeld ?_
          rotate_left
          · intro w hSw
            (try dsimp only at hSw)
            go_simp
            try with_reducible rfl
          (try simp only [Act.put]); (try simp only [List.setIfInBounds_toArray]); (try simp only [List.getElem_toArray]); (repeat (first | simp only [List.getElem_cons_succ] | simp only [List.getElem_cons_zero])); (repeat (first | simp only [List.set_cons_succ] | simp only [List.set_cons_zero]))
          refine wpAnyH_take (i := 8) (v := ?_) rfl (by kernel_rfl) (by kernel_rfl) (by kernel_rfl) (fun _ _ _ h => h) (Or.inl ⟨by rfl, ?_⟩) hHeld ?_
          rotate_left
          · intro w hSw
            (try dsimp only at hSw)
            go_simp
            try with_reducible rfl
          (try simp only [Act.put]); (try simp only [List.setIfInBounds_toArray]); (try simp only [List.getElem_toArray]); (repeat (first | simp only [List.getElem_cons_succ] | simp only [List.getElem_cons_zero])); (repeat (first | simp only [List.set_cons_succ] | simp only [List.set_cons_zero]))
          refine wpAnyH_take (i := 9) (v := ?_) rfl (by kernel_rfl) (by kernel_rfl) (by kernel_rfl) (fun _ _ _ h => h) (Or.inl ⟨by rfl, ?_⟩) hHeld ?_
          rotate_left
          · intro w hSw
            (try dsimp only at hSw)
            go_simp
            try with_reducible rfl
          (try simp only [Act.put]); (try simp only [List.setIfInBounds_toArray]); (try simp only [List.getElem_toArray]); (repeat (first | simp only [List.getElem_cons_succ] | simp only [List.getElem_cons_zero])); (repeat (first | simp only [List.set_cons_succ] | simp only [List.set_cons_zero]))
          refine wpAnyH_take (i := 10) (v := ?_) rfl (by kernel_rfl) (by kernel_rfl) (by kernel_rfl) (fun _ _ _ h => h) (Or.inl ⟨by rfl, ?_⟩) hHeld ?_
          rotate_left
          · intro w hSw
            (try dsimp only at hSw)
            have y0 := hSw.2
            go_simp
            try with_reducible rfl
          (try simp only [Act.put]); (try simp only [List.setIfInBounds_toArray]); (try simp only [List.getElem_toArray]); (repeat (first | simp only [List.getElem_cons_succ] | simp only [List.getElem_cons_zero])); (repeat (first | simp only [List.set_cons_succ] | simp only [List.set_cons_zero]))
          refine wpAnyH_ready (rs := [1]) (by kernel_rfl) (by simp) ?_
          refine AllReadyH.cons rfl (fun KK hKK => ?_) AllReadyH.nil
          have y8 : w4.drew.cell? ⟨D, 8, none⟩ = some (.slice none 0 0) := cell_of HX4.out 8
          go_simp
          refine hKK.out _ _ ?_ (fun hHeld => ?_)
          · exact HK4.out
          clear hKK KK
          (try simp only [Act.put]); (try simp only [List.setIfInBounds_toArray]); (try simp only [List.getElem_toArray]); (repeat (first | simp only [List.getElem_cons_succ] | simp only [List.getElem_cons_zero])); (repeat (first | simp only [List.set_cons_succ] | simp only [List.set_cons_zero]))
          clear y8
          refine wpAnyH_ready (rs := [11]) (by kernel_rfl) (by simp) ?_
          refine AllReadyH.cons rfl (fun KK hKK => ?_) AllReadyH.nil
          refine step_append_runS rfl (.tmp 44) (.tmp 53) 26 rfl _ _ _ _ rfl rfl HRUN.out ?_
          refine hKK.out _ _ ?_ (fun hHeld => ?_)
          · exact HK5.out
          clear hKK KK
          (try simp only [Act.put]); (try simp only [List.setIfInBounds_toArray]); (try simp only [List.getElem_toArray]); (repeat (first | simp only [List.getElem_cons_succ] | simp only [List.getElem_cons_zero])); (repeat (first | simp only [List.set_cons_succ] | simp only [List.set_cons_zero]))
          refine wpAnyH_take (i := 12) (v := ?_) rfl (by kernel_rfl) (by kernel_rfl) (by kernel_rfl) (fun _ _ _ h => h) (Or.inl ⟨by rfl, ?_⟩) hHeld ?_
          rotate_left
          · intro w hSw
            (try dsimp only at hSw)
            go_simp
            try with_reducible rfl
          (try simp only [Act.put]); (try simp only [List.setIfInBounds_toArray]); (try simp only [List.getElem_toArray]); (repeat (first | simp only [List.getElem_cons_succ] | simp only [List.getElem_cons_zero])); (repeat (first | simp only [List.set_cons_succ] | simp only [List.set_cons_zero]))
          refine wpAnyH_ready (rs := [13]) (by kernel_rfl) (by simp) ?_
          refine AllReadyH.cons rfl (fun KK hKK => ?_) AllReadyH.nil
          have y8 : w5.cell? ⟨D, 8, none⟩ = some (.slice none 0 0) := cell_of HX5.out 8
          have z8 := free_of HX5.out 8
          go_simp
          rw [← HW6.out]
          refine hKK.out _ _ ?_ (fun hHeld => ?_)
          · exact HK6.out
          clear hKK KK
          (try simp only [Act.put]); (try simp only [List.setIfInBounds_toArray]); (try simp only [List.getElem_toArray]); (repeat (first | simp only [List.getElem_cons_succ] | simp only [List.getElem_cons_zero])); (repeat (first | simp only [List.set_cons_succ] | simp only [List.set_cons_zero]))
          clear y8 z8
          refine wpAnyH_done (by kernel_rfl) ?_ _
          go_simp
          clear hHeld
          obtain ⟨ks, g1, g2, g3, g4⟩ := HOB6.out
          have hi := HI1.out
          have htl : (l.take j).length = j := by rw [List.length_take]; have := HK.out; omega
          rw [htl] at g2
          have HG := keepH (And.intro g1 (And.intro g3 g4))
          have HG2 := keepH g2
          have HTL := keepH htl
          have d0 : w6.cell? ⟨D, 0, none⟩ = _ := cell_of HX6.out 0
          have d1 : w6.cell? ⟨D, 1, none⟩ = _ := cell_of HX6.out 1
          have d2 : w6.cell? ⟨D, 2, none⟩ = _ := cell_of HX6.out 2
          have d3 : w6.cell? ⟨D, 3, none⟩ = _ := cell_of HX6.out 3
          have d4 : w6.cell? ⟨D, 4, none⟩ = _ := cell_of HX6.out 4
          have d5 : w6.cell? ⟨D, 5, none⟩ = _ := cell_of HX6.out 5
          have d6 : w6.cell? ⟨D, 6, none⟩ = _ := cell_of HX6.out 6
          have d7 : w6.cell? ⟨D, 7, none⟩ = _ := cell_of HX6.out 7
          have d8 : w6.cell? ⟨D, 8, none⟩ = _ := cell_of HX6.out 8
          have d9 : w6.cell? ⟨D, 9, none⟩ = _ := cell_of HX6.out 9
          have d10 : w6.cell? ⟨D, 10, none⟩ = _ := cell_of HX6.out 10
          clear g1 g2 g3 g4 htl
          go_wp2_with (first | (at_builtin; refine wpList_append_own_at _ rfl (.tmp 56) (.tmp 58) 75 rfl 0 28 i1 (.agg #[.int .u8 0, .int .u64 0, .int .u64 0, .int .u64 0, .int .u64 0, .bool false, .int .i64 0, .int .i64 0, .slice none 0 0, .int .u64 0, .int .u64 0]) 11 104 Tryz.underlying75 hi hy0 hy1 hy2 rfl (by decide) u5 j (opRows (l.take j) ks) rfl (HG2.out.alloc _) ⟨w6.heap.size, 0, none⟩ 1 1 (opC ⟨ok, key, val, old, hnd, set, rt, ri, keys, lo, hi2⟩ (.slice kq nk kd)) rfl rfl (cells_newR _ _ rfl _ _) (by intro u hu; simp [opC] at hu; rcases hu with rfl | rfl | rfl | rfl | rfl | rfl | rfl | rfl | rfl | rfl | rfl <;> rfl) (by unfold maxLen; omega) (by omega) (Nat.zero_le _) ?_; intro v2 w8 rr1 rr2 rr3 rr4; have R1 := keepH rr1; have R2 := keepH rr2; have R4 := keepH rr4; clear rr1 rr2 rr3 rr4) | go_in)
          have HNX : Hid (Below wo.heap.size wo w8 ∧ OB wo w8 v2 (l.take (j + 1))) := keepH (by
            refine ⟨(HB6.out.alloc HB6.out.size _).grown R2.out (by have := HB6.out.size; simp; omega) (fun b e => HG.out.2.1 b e), ?_⟩
            rw [HLT.out]
            refine OB.more HG.out.1 (by rw [HTL.out]; exact HG2.out) HG.out.2.1 HG.out.2.2 HB6.out.size (by simp only; exact HKY6.out) (by rw [HTL.out, ← HNK.out]; exact R1.out) R2.out R4.out)
          go_roundw
          case rel => exact ⟨j + 1, by omega, by first | rfl | go_num, HNX⟩
          case measure => simp [intOf]; omega
        · obtain rfl : j = k := by omega
          have r1 : ¬ (j : Int) < (j : Int) := by omega
          have HCX := keepH (HCB.out.on HBX.out)
          have HOL : Hid (OB W wr u5 l) := keepH (by
            have h1 := HOB.out
            rw [HK.out, List.take_length] at h1
            exact h1.base HCB.out.bel.size)
          obtain ⟨vs, v1, v2, v3, v4⟩ := HCX.out.tr
          have htl : (ts.take i).length = i := by rw [List.length_take]; have := HN.out; omega
          rw [htl] at v2
          have HV := keepH (And.intro v1 (And.intro v3 v4))
          have HV2 := keepH v2
          have HTL := keepH htl
          have HTT : Hid (ts.take (i + 1) = ts.take i ++ [l]) := keepH (by rw [List.take_add_one, HX.out]; rfl)
          have hi := HI0.out
          have o4 : wr.cell? ⟨O, 4, none⟩ = some tv := cell_of HCX.out.out 4
          have u5o : u5.oneCell' = true := by obtain ⟨lp2, lc2, e, _⟩ := HOL.out.ord; rw [e]; rfl
          obtain ⟨lp2, lc2, hu5, -⟩ := HOL.out.ord
          clear v1 v2 v3 v4 htl
          subst hu5
          go_wp2_with (first | (at_builtin; refine wpList_append_own_at _ rfl (.tmp 61) (.tmp 63) 43 rfl 0 75 i0 (.slice none 0 0) 1 24 Tryz.underlying43 hi hz0 hz1 hz2 rfl (by decide) tv i vs rfl (HV2.out.alloc _) ⟨wr.heap.size, 0, none⟩ 1 1 [.slice lp2 l.length lc2] rfl rfl (cells_newR _ _ rfl _ _) (by intro u hu; simp at hu; subst hu; rfl) (by unfold maxLen; omega) (by omega) (Nat.zero_le _) ?_; intro tv2 w8 rr1 rr2 rr3 rr4; obtain ⟨t3, c3, rfl⟩ := row_form rr1; have hmo := HCX.out.more HOL.out HV.out.1 (by rw [HTL.out]; exact HV2.out) HV.out.2.1 HV.out.2.2 (by rw [HTL.out]; exact rr1) rr2 rr4; have HMO := keepH hmo.1; have o5 := hmo.2.1; have f5 := hmo.2.2; clear rr1 rr2 rr3 rr4 hmo) | go_in)
          have HNX : Hid (∃ tv, CB W P O R row zr ce sl stp mu (.slice pq m pd) tv ps (ts.take (i + 1)) (w8.setCell ⟨O, 4, none⟩ (.slice t3 (i + 1) c3))) := keepH ⟨.slice t3 (i + 1) c3, by rw [HTT.out]; exact HMO.out⟩
          go_roundw
          case rel => exact ⟨i + 1, by omega, by first | rfl | go_num, HNX⟩
          case measure => simp [intOf]; omega
    · obtain rfl : i = n := by omega
      have q1 : ¬ (i : Int) < (i : Int) := by omega
      have hcb := HCB.out
      rw [HN.out, List.take_length] at hcb
      obtain ⟨tp', tc', pp', pc', e1, e2, hTR, hIR, hpc⟩ := hcb.reads
      rw [← HN.out] at e1
      rw [← HM.out] at e2 hpc
      subst e1
      injection e2 with e21 e22 e23
      subst e21 e23
      have HCZ := keepH hcb
      have HTR := keepH hTR
      have HIR := keepH hIR
      have HPC := keepH hpc
      have hres : wr.heap[R]? = some (.cells (scR 0 0 0 0 (.slice none 0 0) (.slice none 0 0)) 46 (0, 0)) := by have := HCB.out.res; rw [HZR.out] at this; exact this
      have HRES := keepH hres
      have d0 : wr.cell? ⟨O, 0, none⟩ = _ := cell_of HCB.out.out 0
      have d1 : wr.cell? ⟨O, 1, none⟩ = _ := cell_of HCB.out.out 1
      have d2 : wr.cell? ⟨O, 2, none⟩ = _ := cell_of HCB.out.out 2
      have d3 : wr.cell? ⟨O, 3, none⟩ = _ := cell_of HCB.out.out 3
      have d4 : wr.cell? ⟨O, 4, none⟩ = _ := cell_of HCB.out.out 4
      have d5 : wr.cell? ⟨O, 5, none⟩ = _ := cell_of HCB.out.out 5
      clear hcb hTR hIR hpc hres
      go_wp2_with (first | (refine wpList_store_row rfl 46 _ _ rfl R (scR ce sl stp mu (.slice tp' i tc') (.slice pq m pd)) rfl rfl 46 (scR 0 0 0 0 (.slice none 0 0) (.slice none 0 0)) HRES.out (by kernel_rfl) rfl (by simp [Value.oneCell']) ?_) | fail)
      have hrow := setRow_heap _ R _ (scR ce sl stp mu (.slice tp' i tc') (.slice pq m pd)) 46 (0, 0) HRES.out
      have e0 := cell_of hrow 0
      have e1 := cell_of hrow 1
      have e2 := cell_of hrow 2
      have e3 := cell_of hrow 3
      have e4 := cell_of hrow 4
      have e5 := cell_of hrow 5
      simp at e0 e1 e2 e3 e4 e5
      refine bodyPost_ret (v := .agg (scR ce sl stp mu (.slice tp' i tc') (.slice pq m pd))) (by simp [results, Tryz.results15, go_sem, e0, e1, e2, e3, e4, e5]) rfl ?_
      have hz := HCZ.out.ret HPR.out (scR ce sl stp mu (.slice tp' i tc') (.slice pq m pd))
      obtain ⟨tp2, tc2, pp2, pc2, z1, z2, zT, zI, zc⟩ := hz.reads
      rw [← HN.out] at z1
      rw [← HM.out] at z2 zc
      injection z1 with z11 z12 z13
      injection z2 with z21 z22 z23
      subst z11 z13 z21 z23
      exact ⟨tp', tc', pq, pd, rfl, zT, zI, zc, hz.bel⟩
end Go.Proofs.YtmmaniolaljjlaaGreatDoor
/- An operation that is read, by the program. (mkScp.py) -/
namespace Go.Proofs.YtmmaniolaljjlaaGreatDoor
open Go.RowKit Go.Shelf
set_option linter.unusedVariables false

def zeroO : Opx := ⟨0, 0, 0, 0, 0, false, 0, 0, [], 0, 0⟩
def opV (o : Opx) (kp : Option Addr) (kc : Nat) : Array Value := opR o.k o.key o.val o.old o.hnd o.set o.rt o.ri (.slice kp o.keys.length kc) o.lo o.hi
theorem pq_no {t : List UInt8} (h : ∀ o', rightO o' → t ≠ textO o') : PQ t false zeroO := ⟨fun e => by simp at e, fun o' h1 h2 => absurd h2 (h o' h1)⟩
theorem sl_any (bk off n cap i : Nat) (hi : i ≤ n) (hcap : n ≤ cap) : ∃ off', (∀ w, (Instr.slice 67 (.slice (some ⟨bk, off, none⟩) n cap) (some (.int .i64 (i : Int))) none none).run Tryz.prog w = .ok (.slice (some ⟨bk, off', none⟩) (n - i) (cap - i)) w) ∧ (i < cap → off' = off + i) := by
  by_cases e : cap = i
  · refine ⟨off, fun w => ?_, fun h => by omega⟩
    have hn : n = i := by omega
    have hb := run_sliceBound (P := Tryz.prog) (w := w) .i64 (i : Int) i .sliceB (by omega) (by omega)
    simp [Instr.slice, run_underlying Tryz.underlying67, Instr.sliceBounds, Result.andThen, e, hn, hb]
  · refine ⟨off + i, fun w => ?_, fun _ => rfl⟩
    have hb := run_sliceBound (P := Tryz.prog) (w := w) .i64 (i : Int) n .sliceB (by omega) (by omega)
    simp [Instr.slice, run_underlying Tryz.underlying67, Instr.sliceBounds, Result.andThen, e, hb, Addr.add]
    try (unfold Addr.add; split <;> simp_all)
/-- what lies in memory while an operation is read -/
structure PS (W : World) (R P F : Nat) (row fr : Array Value) (pv : Value) (ns : List Nat) (sb so : Nat) (fs : List (List UInt8)) (wr : World) : Prop where
  rr : wr.heap[R]? = some (.cells (opR 0 0 0 0 0 false 0 0 (.slice none 0 0) 0 0) 28 (0, 0))
  bx : wr.heap[P]? = some (.cells row 28 (0, 0))
  fl : wr.heap[F]? = some (.cells fr 113 (0, 0))
  num : (ns = [] ∧ pv = .slice none 0 0) ∨ ∃ g, pv = .slice (some ⟨g, 0, none⟩) ns.length ns.length ∧ g ≠ P ∧ wr.heap[g]? = some (.cells (ns.map fun n => Value.pointer (some ⟨P, n, none⟩)).toArray 115 (0, 0))
  st : ∀ (i : Nat) (f : List UInt8), fs[i]? = some f → wr.cell? ⟨sb, so + i, none⟩ = some (.string (mkS f))
  sl : sb < wr.heap.size
  bel : Below W.heap.size W wr
  lo : W.heap.size ≤ P
  lr : W.heap.size ≤ R
  nr : R ≠ P
  nf : F ≠ P
  ns : sb ≠ P
theorem PS.chg {W : World} {R P F : Nat} {row row' fr : Array Value} {pv : Value} {ns : List Nat} {sb so : Nat} {fs : List (List UInt8)} {wr X : World} (h : PS W R P F row fr pv ns sb so fs wr) (hc : Chg (fun b => b = P) wr X) (hx : X.heap[P]? = some (.cells row' 28 (0, 0))) : PS W R P F row' fr pv ns sb so fs X := by
  have hk : ∀ (b : Nat) (o : Obj), b ≠ P → wr.heap[b]? = some o → X.heap[b]? = some o := fun b o hne hb => (hc.block b (Array.getElem?_eq_some_iff.1 hb).1 hne).trans hb
  refine ⟨hk R _ h.nr h.rr, hx, hk F _ h.nf h.fl, ?_, fun i f hf => ?_, Nat.lt_of_lt_of_le h.sl hc.size, ⟨hc.os.trans h.bel.os, hc.tape.trans h.bel.tape, hc.output.trans h.bel.output, Nat.le_trans h.bel.size hc.size, fun k hk' => ?_⟩, h.lo, h.lr, h.nr, h.nf, h.ns⟩
  · rcases h.num with x | ⟨g, h1, h2, h3⟩
    · exact .inl x
    · exact .inr ⟨g, h1, h2, hk g _ h2 h3⟩
  · rw [World.cell?_of_block (w := wr) (hc.block sb h.sl h.ns)]
    exact h.st i f hf
  · have := h.lo
    have := h.bel.size
    rw [hc.block k (by omega) (by omega)]
    exact h.bel.block k hk'
theorem PS.on {W : World} {R P F : Nat} {row fr : Array Value} {pv : Value} {ns : List Nat} {sb so : Nat} {fs : List (List UInt8)} {wr X : World} (h : PS W R P F row fr pv ns sb so fs wr) (hb : Below wr.heap.size wr X) : PS W R P F row fr pv ns sb so fs X := h.chg (chg_of_below hb) (heap_below h.bx hb)
theorem PS.cut {W : World} {R P F : Nat} {row fr : Array Value} {pv : Value} {ns : List Nat} {sb so so' : Nat} {f : List UInt8} {fs : List (List UInt8)} {wr : World} (h : PS W R P F row fr pv ns sb so (f :: fs) wr) (e : 0 < fs.length → so' = so + 1) : PS W R P F row fr pv ns sb so' fs wr :=
  ⟨h.rr, h.bx, h.fl, h.num, fun i x hx => by
    have hl : 0 < fs.length := by
      have := (List.getElem?_eq_some_iff.1 hx).1
      omega
    have := h.st (i + 1) x (by simpa using hx)
    rw [e hl, Nat.add_assoc, Nat.add_comm 1 i]
    exact this, h.sl, h.bel, h.lo, h.lr, h.nr, h.nf, h.ns⟩
theorem PS.srd {W : World} {R P F : Nat} {row fr : Array Value} {pv : Value} {ns : List Nat} {sb so : Nat} {fs : List (List UInt8)} {wr : World} (h : PS W R P F row fr pv ns sb so fs wr) : SRd wr (some ⟨sb, so, none⟩) fs := .inr ⟨sb, so, rfl, h.sl, h.st⟩
/-- the end: the row of the answer is written -/
theorem PS.fin {W : World} {R P F : Nat} {row fr : Array Value} {pv : Value} {ns : List Nat} {sb so : Nat} {fs : List (List UInt8)} {wr : World} (h : PS W R P F row fr pv ns sb so fs wr) (cs : Array Value) : (wr.setRow R cs).heap[R]? = some (.cells cs 28 (0, 0)) ∧ Below W.heap.size W (wr.setRow R cs) := ⟨setRow_heap _ _ _ _ _ _ h.rr, below_setRow h.bel h.lr _⟩
end Go.Proofs.YtmmaniolaljjlaaGreatDoor
/- What a reading of an operation finds: what is pure. -/
namespace Go.Proofs.YtmmaniolaljjlaaGreatDoor
open Go.RowKit Go.Shelf
set_option linter.unusedVariables false

def HPart (k hnd : Nat) (set : Bool) (rt ri : Int) (pre : List (List UInt8)) : Prop := (hndK k = true ∧ ∃ f1, pre = [f1] ∧ HdQ f1 true hnd set rt ri) ∨ (hndK k = false ∧ pre = [] ∧ hnd = 0 ∧ set = false ∧ rt = 0 ∧ ri = 0)
theorem core {t : List UInt8} {k hnd : Nat} {set : Bool} {rt ri : Int} {pre r1 : List (List UInt8)} (hk : hasK k = true) (hp : HPart k hnd set rt ri pre) (hs : Lib.split t [32] = opW k :: (pre ++ r1)) {o : Opx} (ho : rightO o) (ht : t = textO o) :
    o.k = k ∧ o.hnd = hnd ∧ o.set = set ∧ o.rt = rt ∧ o.ri = ri ∧ r1 = (nuO o).map Lib.decDigits := by
  have R := right_parts ho
  have e := (text_iff t o).1 ht
  rw [hs, R.parts] at e
  simp only [List.cons.injEq] at e
  have hkk : o.k = k := (opW_inj k o.k hk R.has e.1).symm
  have e2 := e.2
  rw [hkk] at e2
  rcases hp with ⟨h1, f1, rfl, hd⟩ | ⟨h1, rfl, rfl, rfl, rfl, rfl⟩
  · rw [h1] at e2
    simp at e2
    obtain ⟨_, q1, q2, q3, q4⟩ := hd.2 o.hnd o.set o.rt o.ri ho.1.hnd ho.1.rt ho.1.ri (R.hd (by rw [hkk]; exact h1)) e2.1
    exact ⟨hkk, q1.symm, q2.symm, q3.symm, q4.symm, e2.2⟩
  · rw [h1] at e2
    obtain ⟨q1, q2, q3, q4⟩ := R.nohd (by rw [hkk]; exact h1)
    exact ⟨hkk, q1, q2, q3, q4, by simpa using e2⟩
theorem no_kind {t f0 : List UInt8} {r0 : List (List UInt8)} (h : ∀ k, hasK k = true → f0 ≠ opW k) (hs : Lib.split t [32] = f0 :: r0) : ∀ o, rightO o → t ≠ textO o := by
  intro o ho ht
  have R := right_parts ho
  have e := (text_iff t o).1 ht
  rw [hs, R.parts] at e
  simp only [List.cons.injEq] at e
  exact h o.k R.has e.1
theorem no_hd {t : List UInt8} {k : Nat} (hk : hasK k = true) (hh : hndK k = true) (hs : Lib.split t [32] = [opW k]) : ∀ o, rightO o → t ≠ textO o := by
  intro o ho ht
  have R := right_parts ho
  have e := (text_iff t o).1 ht
  rw [hs, R.parts] at e
  simp only [List.cons.injEq] at e
  have hkk : o.k = k := (opW_inj k o.k hk R.has e.1).symm
  have e2 := e.2
  rw [hkk, hh] at e2
  simp at e2
theorem no_hd2 {t f1 : List UInt8} {k hnd : Nat} {set : Bool} {rt ri : Int} {r1 : List (List UInt8)} (hk : hasK k = true) (hh : hndK k = true) (hs : Lib.split t [32] = opW k :: f1 :: r1) (hd : HdQ f1 false hnd set rt ri) : ∀ o, rightO o → t ≠ textO o := by
  intro o ho ht
  have R := right_parts ho
  have e := (text_iff t o).1 ht
  rw [hs, R.parts] at e
  simp only [List.cons.injEq] at e
  have hkk : o.k = k := (opW_inj k o.k hk R.has e.1).symm
  have e2 := e.2
  rw [hkk, hh] at e2
  simp at e2
  have := (hd.2 o.hnd o.set o.rt o.ri ho.1.hnd ho.1.rt ho.1.ri (R.hd (by rw [hkk]; exact hh)) e2.1).1
  simp at this
theorem no_nums {t : List UInt8} {k hnd : Nat} {set : Bool} {rt ri : Int} {pre r1 : List (List UInt8)} (hk : hasK k = true) (hp : HPart k hnd set rt ri pre) (hs : Lib.split t [32] = opW k :: (pre ++ r1)) (hm : r1.mapM natP = none) : ∀ o, rightO o → t ≠ textO o := by
  intro o ho ht
  obtain ⟨_, _, _, _, _, e⟩ := core hk hp hs ho ht
  rw [e, natsM_dec _ (nu_u ho.1)] at hm
  simp at hm
theorem nu_of {t : List UInt8} {k hnd : Nat} {set : Bool} {rt ri : Int} {pre r1 : List (List UInt8)} {us : List Nat} (hk : hasK k = true) (hp : HPart k hnd set rt ri pre) (hs : Lib.split t [32] = opW k :: (pre ++ r1)) (hm : r1.mapM natP = some us) {o : Opx} (ho : rightO o) (ht : t = textO o) : us = nuO o ∧ o.k = k := by
  obtain ⟨hkk, _, _, _, _, e⟩ := core hk hp hs ho ht
  rw [e, natsM_dec _ (nu_u ho.1)] at hm
  simp only [Option.some.injEq] at hm
  exact ⟨hm.symm, hkk⟩
theorem numK_7 {k : Nat} (h : kysK k = true) : numK k = [] := by
  unfold kysK at h
  simp at h
  subst h
  rfl
theorem no_keys {t : List UInt8} {k hnd : Nat} {set : Bool} {rt ri : Int} {pre r1 : List (List UInt8)} {us : List Nat} (hk : hasK k = true) (hp : HPart k hnd set rt ri pre) (hs : Lib.split t [32] = opW k :: (pre ++ r1)) (hm : r1.mapM natP = some us) (h7 : kysK k = true) (hl : ¬ us.length ≤ 1024) : ∀ o, rightO o → t ≠ textO o := by
  intro o ho ht
  obtain ⟨e, hkk⟩ := nu_of hk hp hs hm ho ht
  have R := right_parts ho
  have := R.kys (by rw [hkk]; exact h7)
  rw [e] at hl
  unfold nuO at hl
  rw [hkk, numK_7 h7] at hl
  simp at hl
  omega
theorem no_len {t : List UInt8} {k hnd : Nat} {set : Bool} {rt ri : Int} {pre r1 : List (List UInt8)} {us : List Nat} (hk : hasK k = true) (hp : HPart k hnd set rt ri pre) (hs : Lib.split t [32] = opW k :: (pre ++ r1)) (hm : r1.mapM natP = some us) (h7 : kysK k = false) (hl : us.length ≠ (numK k).length) : ∀ o, rightO o → t ≠ textO o := by
  intro o ho ht
  obtain ⟨e, hkk⟩ := nu_of hk hp hs hm ho ht
  have R := right_parts ho
  have := R.nokys (by rw [hkk]; exact h7)
  apply hl
  rw [e]
  unfold nuO
  rw [this, hkk]
  simp
theorem hp_facts {k hnd : Nat} {set : Bool} {rt ri : Int} {pre : List (List UInt8)} (hp : HPart k hnd set rt ri pre) : isU hnd ∧ isI rt ∧ isI ri ∧ (hndK k = true → rhB hnd set rt ri = true) ∧ (hndK k = false → hnd = 0 ∧ set = false ∧ rt = 0 ∧ ri = 0) ∧ pre = (if hndK k = true then [hText hnd set rt ri] else []) := by
  rcases hp with ⟨h1, f1, rfl, hd⟩ | ⟨h1, rfl, rfl, rfl, rfl, rfl⟩
  · obtain ⟨a, b, c, d, e⟩ := hd.1 rfl
    exact ⟨a, b, c, fun _ => d, fun h => by rw [h1] at h; simp at h, by rw [h1, e]; simp⟩
  · exact ⟨by unfold isU; omega, ⟨by omega, by omega⟩, ⟨by omega, by omega⟩, fun h => by rw [h1] at h; simp at h, fun _ => ⟨rfl, rfl, rfl, rfl⟩, by rw [h1]; simp⟩
theorem has_lt {k : Nat} (h : hasK k = true) : k < 256 := by unfold hasK at h; simp at h; omega
theorem yes_keys {t : List UInt8} {k hnd : Nat} {set : Bool} {rt ri : Int} {pre r1 : List (List UInt8)} {us : List Nat} (hk : hasK k = true) (hp : HPart k hnd set rt ri pre) (hs : Lib.split t [32] = opW k :: (pre ++ r1)) (hm : r1.mapM natP = some us) (h7 : kysK k = true) (hl : us.length ≤ 1024) : PQ t true ⟨k, 0, 0, 0, hnd, set, rt, ri, us, 0, 0⟩ := by
  obtain ⟨a1, a2, a3, a4, a5, a6⟩ := hp_facts hp
  obtain ⟨hdec, huu⟩ := natsM_some hm
  have u0 : isU 0 := by unfold isU; omega
  have hr : rightO ⟨k, 0, 0, 0, hnd, set, rt, ri, us, 0, 0⟩ := mk_right ⟨has_lt hk, u0, u0, u0, a1, a2, a3, huu, u0, u0⟩ hk a4 a5 (fun _ => hl) (fun h => by simp only at h; rw [h7] at h; simp at h) (fun _ => rfl) (fun _ => rfl) (fun _ => rfl) (fun _ => rfl) (fun _ => rfl)
  refine ⟨fun _ => ⟨hr, ?_⟩, fun o ho ht => ⟨rfl, ?_⟩⟩
  · rw [text_iff, hs, (right_parts hr).parts]
    unfold nuO
    simp only
    rw [numK_7 h7, a6, hdec]
    simp
  · obtain ⟨c1, c2, c3, c4, c5, c6⟩ := core hk hp hs ho ht
    obtain ⟨e, _⟩ := nu_of hk hp hs hm ho ht
    have R := right_parts ho
    obtain ⟨ok', key', val', old', hnd', set', rt', ri', keys', lo', hi'⟩ := o
    simp only at c1 c2 c3 c4 c5
    subst c1 c2 c3 c4 c5
    have n7 := numK_7 h7
    have q1 := R.z1
    have q2 := R.z2
    have q3 := R.z3
    have q9 := R.z9
    have q10 := R.z10
    simp only [n7] at q1 q2 q3 q9 q10
    unfold nuO at e
    simp only [n7] at e
    simp at e q1 q2 q3 q9 q10
    subst e q1 q2 q3 q9 q10
    rfl
theorem yes_nums {t : List UInt8} {k hnd : Nat} {set : Bool} {rt ri : Int} {pre r1 : List (List UInt8)} {us : List Nat} (hk : hasK k = true) (hp : HPart k hnd set rt ri pre) (hs : Lib.split t [32] = opW k :: (pre ++ r1)) (hm : r1.mapM natP = some us) (h7 : kysK k = false) (hl : us.length = (numK k).length) : PQ t true ⟨k, fk k us 1, fk k us 2, fk k us 3, hnd, set, rt, ri, [], fk k us 9, fk k us 10⟩ := by
  obtain ⟨a1, a2, a3, a4, a5, a6⟩ := hp_facts hp
  obtain ⟨hdec, huu⟩ := natsM_some hm
  have hr : rightO ⟨k, fk k us 1, fk k us 2, fk k us 3, hnd, set, rt, ri, [], fk k us 9, fk k us 10⟩ := mk_right ⟨has_lt hk, fk_u huu 1, fk_u huu 2, fk_u huu 3, a1, a2, a3, fun u hu => by simp at hu, fk_u huu 9, fk_u huu 10⟩ hk a4 a5 (fun h => by simp only at h; rw [h7] at h; simp at h) (fun _ => rfl) (fun h => fk_none us h) (fun h => fk_none us h) (fun h => fk_none us h) (fun h => fk_none us h) (fun h => fk_none us h)
  refine ⟨fun _ => ⟨hr, ?_⟩, fun o ho ht => ⟨rfl, ?_⟩⟩
  · rw [text_iff, hs, (right_parts hr).parts]
    unfold nuO
    simp only
    rw [fk_nums k us hl, a6, hdec]
    simp
  · obtain ⟨c1, c2, c3, c4, c5, c6⟩ := core hk hp hs ho ht
    obtain ⟨e, _⟩ := nu_of hk hp hs hm ho ht
    have R := right_parts ho
    obtain ⟨ok', key', val', old', hnd', set', rt', ri', keys', lo', hi'⟩ := o
    simp only at c1 c2 c3 c4 c5
    subst c1 c2 c3 c4 c5
    have hke := R.nokys h7
    simp only at hke
    subst hke
    unfold nuO at e
    simp only [List.append_nil] at e
    subst e
    obtain ⟨q1, q2, q3, q9, q10⟩ := fk_of ok' key' val' old' lo' hi' R.z1 R.z2 R.z3 R.z9 R.z10
    rw [q1, q2, q3, q9, q10]
/-- a row of numbers that was built, above B -/
def KU (B : Nat) (lp : Option Addr) (us : List Nat) (X : World) : Prop := us = [] ∨ ∃ g, lp = some ⟨g, 0, none⟩ ∧ B ≤ g ∧ g < X.heap.size ∧ ∀ (i x : Nat), us[i]? = some x → X.cell? ⟨g, i, none⟩ = some (.int .u64 (x : Int))
theorem stu_form {W X : World} {us : List Nat} {v : Value} (h : StU W us v X) : ∃ lp lc, v = .slice lp us.length lc ∧ KU W.heap.size lp us X := by
  have hl := fun k hk => row_lt h.row k hk
  have hc := fun g (hg : v.ownBlock = some g) => h.row.cells (g := g) hg
  rcases h.row.2 with ⟨hv, h0⟩ | ⟨g, cap, cur, hv, _⟩
  · exact ⟨none, 0, by rw [hv, h0], .inl (List.eq_nil_of_length_eq_zero h0)⟩
  · refine ⟨_, cap, hv, .inr ⟨g, rfl, h.new g (by rw [hv]; rfl), hl g (by rw [hv]; rfl), fun i x hx => ?_⟩⟩
    have := hc g (by rw [hv]; rfl) i (.int .u64 (x : Int)) (by unfold uRow; rw [List.getElem?_map, hx]; rfl)
    rw [Addr.add_mid] at this
    simpa using this
theorem KU.chg {B P : Nat} {lp : Option Addr} {us : List Nat} {X Y : World} (h : KU B lp us X) (hP : P < B) (hc : Chg (fun b => b = P) X Y) : KU B lp us Y := by
  rcases h with h | ⟨g, h1, h2, h3, h4⟩
  · exact .inl h
  · refine .inr ⟨g, h1, h2, Nat.lt_of_lt_of_le h3 hc.size, fun i x hx => ?_⟩
    rw [World.cell?_of_block (w := X) (hc.block g h3 (by omega))]
    exact h4 i x hx
theorem KU.row {B R : Nat} {lp : Option Addr} {us : List Nat} {X : World} (h : KU B lp us X) (hR : R < B) (cs : Array Value) : KU B lp us (X.setRow R cs) := by
  rcases h with h | ⟨g, h1, h2, h3, h4⟩
  · exact .inl h
  · refine .inr ⟨g, h1, h2, by simpa using h3, fun i x hx => ?_⟩
    rw [World.cell?_of_block (w := X) (setRow_other X R g cs (by omega))]
    exact h4 i x hx
theorem KU.krd {B : Nat} {lp : Option Addr} {us : List Nat} {X : World} (h : KU B lp us X) : KRd X lp us := by
  rcases h with h | ⟨g, h1, h2, h3, h4⟩
  · exact .inl h
  · exact .inr ⟨g, 0, h1, h3, fun i x hx => by simpa using h4 i x hx⟩
theorem KU.mono {B C : Nat} {lp : Option Addr} {us : List Nat} {X : World} (h : KU B lp us X) (hC : C ≤ B) : KU C lp us X := by
  rcases h with h | ⟨g, h1, h2, h3, h4⟩
  · exact .inl h
  · exact .inr ⟨g, h1, Nat.le_trans hC h2, h3, h4⟩
def PaQ (W : World) (t : List UInt8) (e : Ending) (W' : World) : Prop := ∃ ok o kp kc, e = .returned (.tuple #[.agg (opV o kp kc), .bool ok]) ∧ PQ t ok o ∧ KU W.heap.size kp o.keys W' ∧ (ok = false → o = zeroO) ∧ Below W.heap.size W W'
theorem KU.lst {B P : Nat} {lp : Option Addr} {us : List Nat} {X : World} (h : KU B lp us X) (hP : P < B) : us = [] ∨ ∃ g, lp = some ⟨g, 0, none⟩ ∧ g ≠ P ∧ ∀ (i x : Nat), us[i]? = some x → X.cell? ⟨g, i, none⟩ = some (.int .u64 (x : Int)) := by
  rcases h with h | ⟨g, h1, h2, h3, h4⟩
  · exact .inl h
  · exact .inr ⟨g, h1, by omega, h4⟩
end Go.Proofs.YtmmaniolaljjlaaGreatDoor
