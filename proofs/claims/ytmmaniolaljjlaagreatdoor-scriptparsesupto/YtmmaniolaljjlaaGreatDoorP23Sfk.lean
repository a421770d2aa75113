/- A line that is an operation, the line of a config, by the program. (mkSfk.py) -/
import Derived.Test.YtmmaniolaljjlaaGreatDoorP22Sfj
import Derived.Deep.RegionHeld
namespace Go.Proofs.YtmmaniolaljjlaaGreatDoor
open Go.RowKit Go.Shelf Go.Maps
set_option linter.unusedVariables false

theorem step_store_mid {P : Program} {ops : Array Oper} {o : Oper} {a : Act} {w : World} {K : Act → World → Prop} {Q : Exit → Act → World → Prop} {E : Prop} (hgd : o.guard = none) (ty : TypeId) (x y : Operand) (ho : o.op = .store ty x y)
    (b off : Nat) (cells : Array Value) (hx : a.eval x = .pointer (some ⟨b, off, none⟩)) (hy : a.eval y = .agg cells)
    (ht : w.there b off cells.size) (hi : (P.info? ty).map (·.size) = some cells.size) (h1 : cells.all (·.oneCell') = true)
    (h : K (a.put o.dst undef) (w.setCells b off cells.toList)) : if Region.wanted o (yielded ops a.tmps) = true then Oper.wp P o a w K Q else E := by
  have hw : Region.wanted o (yielded ops a.tmps) = true := by simp [Region.wanted, hgd]
  rw [if_pos hw]
  exact wp_store_mid ty x y ho b off cells hx hy ht hi h1 h
set_option maxRecDepth 100000 in
set_option maxHeartbeats 8000000 in
theorem rd_op (Z : World) (b vb m : Nat) (st : Option Rdg) (t f0 : List UInt8) (r0 : List (List UInt8)) (ht : t.length ≤ 5000000) (hsp : Lib.split t [32] = f0 :: r0) (n1 : f0 ≠ cfW) (n2 : f0 ≠ thW) (n3 : f0 ≠ pkW) (hs : SzR st) (W : World) (T : Tb W) (hW : Wd W) (h : SR Z b vb m st W) :
    Calls Tryz.prog 92 #[.pointer (some ⟨b, 0, none⟩), .string (mkS t)] W (TkQ Z b vb m st t) := by
  obtain ⟨ce, sl, stp, mu, tv, pv, ts, ps, hrs, hnone, hsome⟩ := h
  obtain ⟨a, ha⟩ : ∃ a, a = atN st := ⟨_, rfl⟩
  rw [← ha] at hrs
  obtain ⟨tp, tc, pp, pc, e1, e2, -, -, -⟩ := hrs.os.reads
  obtain ⟨n, hn⟩ : ∃ n, n = ts.length := ⟨_, rfl⟩
  obtain ⟨pn, hpn⟩ : ∃ n, n = ps.length := ⟨_, rfl⟩
  rw [← hn] at e1
  rw [← hpn] at e2
  subst e1 e2
  have HPA := keepH (parse_any vb t ht W hrs.vc hW T)
  obtain ⟨s, hsx⟩ : ∃ s, s = mkS t := ⟨_, rfl⟩
  rw [← hsx] at HPA ⊢
  have HRS := keepH hrs
  have HSP := keepH hsp
  have HA := keepH ha
  have HN := keepH hn
  have HSM := keepH hsome
  have HSZ := keepH hs
  have HNN := keepH hnone
  have HNO := keepH (And.intro n1 (And.intro n2 n3))
  have c6 : W.cell? ⟨b, 6, none⟩ = _ := cell_of HRS.out.bx 6
  have c4 : W.cell? ⟨b, 4, none⟩ = _ := cell_of HRS.out.bx 4
  have c7 : W.cell? ⟨b, 7, none⟩ = _ := cell_of HRS.out.bx 7
  clear hrs hsp ha hn hnone hsome hs n1 n2 n3 hsx T hW hpn ht
  by_cases h1 : a = 1
  · have q1 : ((a : Int) != 1) = false := by rw [h1]; rfl
    by_cases h0 : n = 0
    · have y1 : (n : Int) - 1 = -1 := by omega
      have HNG : Hid (NoG st t) := keepH (no_op HSP.out HNO.out.1 HNO.out.2.1 HNO.out.2.2 (by
        obtain ⟨x, hx, _⟩ := at1_some (HA.out.symm.trans h1)
        have hxe := HSM.out x hx
        refine .inr (.inl ⟨x, hx, ?_⟩)
        rw [hxe]
        exact List.eq_nil_of_length_eq_zero (by rw [← HN.out]; exact h0)))
      clear h1 h0 HPA
      go_enter Tryz.func92, Tryz.ntmps92
      go_wp2_with fail
      go_ret
      exact ⟨false, rfl, HRS.out.bel, fun e => (nomatch e), fun _ => HNG.out⟩
    · obtain ⟨x, hx, hxp⟩ := at1_some (HA.out.symm.trans h1)
      have hxe := HSM.out x hx
      subst hxe
      simp only at hxp
      obtain ⟨ts0, l0, hts⟩ : ∃ ts0 l0, ts = ts0 ++ [l0] := ⟨ts.dropLast, ts.getLast (fun e => by have := HN.out; rw [e] at this; simp at this; omega), (List.dropLast_concat_getLast _).symm⟩
      subst hts
      obtain ⟨n', hn'⟩ : ∃ n', n' = ts0.length := ⟨_, rfl⟩
      have hnn : n = n' + 1 := by have := HN.out; simp at this; omega
      have hsz := HSZ.out _ hx
      have HL0 : l0.length ≤ 10000000 := hsz.ll l0 (by simp)
      have hn7 : n ≤ 10000000 := by have := hsz.tl; rw [HN.out]; exact this
      have y1 : (n : Int) - 1 = (n' : Int) := by omega
      have y0 : ¬ (n' : Int) < 0 := by omega
      have wn : IntKind.i64.wrap (n' : Int) = (n' : Int) := by rw [IntKind.wrap_i64]; omega
      have b0 : (0 : Int) ≤ (n' : Int) := by omega
      have b2 : (n' : Int) < (n : Int) := by omega
      have HX := keepH hx
      have HPS := keepH hxp
      have HNX := keepH hn'
      have HNE := keepH hnn
      have HLL := keepH HL0
      have HHA := keepH h1
      clear h1 h0 hx hxp hn' hnn hsz HL0 hn7
      go_enter Tryz.func92, Tryz.ntmps92
      go_wp2_with fail
      refine HPA.out.mono ?_
      rintro e w3 ⟨ok2, o, kp, kc, rfl, hpq2, hku, -, B3⟩
      have HPO2 := keepH hpq2
      have HKU := keepH hku
      have HR3 := keepH (HRS.out.on B3)
      have HZW : Hid (Z.heap.size ≤ W.heap.size) := keepH HRS.out.bel.size
      clear hpq2 hku B3 c4 c6 c7
      simp only [opV]
      go_upto_region 5 with (first | (refine wpList_store_row rfl 28 _ _ rfl w3.heap.size #[.int .u8 (o.k : Int), .int .u64 (o.key : Int), .int .u64 (o.val : Int), .int .u64 (o.old : Int), .int .u64 (o.hnd : Int), .bool o.set, .int .i64 o.rt, .int .i64 o.ri, .slice kp o.keys.length kc, .int .u64 (o.lo : Int), .int .u64 (o.hi : Int)] rfl rfl 28 #[.int .u8 0, .int .u64 0, .int .u64 0, .int .u64 0, .int .u64 0, .bool false, .int .i64 0, .int .i64 0, .slice none 0 0, .int .u64 0, .int .u64 0] (heap_alloc_new _ _) (by kernel_rfl) rfl (by simp [Value.oneCell']) ?_) | fail)
      obtain ⟨O, hO⟩ : ∃ O, O = w3.heap.size := ⟨_, rfl⟩
      obtain ⟨w4, hw4⟩ : ∃ w4, w4 = (w3.alloc (.cells #[.int .u8 0, .int .u64 0, .int .u64 0, .int .u64 0, .int .u64 0, .bool false, .int .i64 0, .int .i64 0, .slice none 0 0, .int .u64 0, .int .u64 0] 28)).setRow w3.heap.size #[.int .u8 (o.k : Int), .int .u64 (o.key : Int), .int .u64 (o.val : Int), .int .u64 (o.old : Int), .int .u64 (o.hnd : Int), .bool o.set, .int .i64 o.rt, .int .i64 o.ri, .slice kp o.keys.length kc, .int .u64 (o.lo : Int), .int .u64 (o.hi : Int)] := ⟨_, rfl⟩
      rw [← hw4, ← hO]
      have B4 : Below w3.heap.size w3 w4 := by rw [hw4]; exact below_setRow (below_alloc _ _) (Nat.le_refl _) _
      have HO4 : Hid (w4.heap[O]? = some (.cells #[.int .u8 (o.k : Int), .int .u64 (o.key : Int), .int .u64 (o.val : Int), .int .u64 (o.old : Int), .int .u64 (o.hnd : Int), .bool o.set, .int .i64 o.rt, .int .i64 o.ri, .slice kp o.keys.length kc, .int .u64 (o.lo : Int), .int .u64 (o.hi : Int)] 28 (0, 0))) := keepH (by rw [hw4, hO]; exact setRow_heap _ _ _ _ _ _ (heap_alloc_new _ _))
      have HR4 := keepH (HR3.out.on B4)
      have HK4 := keepH (HKU.out.on B4)
      obtain ⟨gT, cap, v0, ks, etv, c03, f03, ltT, mT, k1, k23, pv0, cv0, hv0⟩ := HR3.out.os.last
      have c0 := cell_below c03 B4
      have k2 := row_kept k23 (fun k hk => B4.block k (row_lt k23 k hk))
      have hneO : v0.ownBlock ≠ some O := fun e => by have := row_lt k23 O e; omega
      have hneG : gT ≠ O := by omega
      rw [← HNX.out] at etv c0 c03
      injection etv with etp enn etc'
      clear enn
      subst etp etc' hv0
      have HR4' := HR4.out
      rw [HNE.out, HNX.out] at HR4'
      obtain ⟨wa, hwa⟩ : ∃ wa, wa = w4.drew.alloc (.cells #[.int .u8 (o.k : Int), .int .u64 (o.key : Int), .int .u64 (o.val : Int), .int .u64 (o.old : Int), .int .u64 (o.hnd : Int), .bool o.set, .int .i64 o.rt, .int .i64 o.ri, .slice kp o.keys.length kc, .int .u64 (o.lo : Int), .int .u64 (o.hi : Int)] 28) := ⟨_, rfl⟩
      have BA : Below w4.heap.size w4 wa := by rw [hwa]; exact below_chain (below_drewN (Below.refl _ _) 1) (below_alloc _ _)
      have HRA := HR4'.on BA
      have ca : wa.cell? ⟨gT, ts0.length, none⟩ = some (.slice pv0 l0.length cv0) := by rw [← HNX.out]; exact cell_below c0 BA
      have ka := row_kept k2 (fun k hk => BA.block k (row_lt k2 k hk))
      have hrun := app_rowO wa (.slice pv0 l0.length cv0) w4.drew.heap.size l0 ks o (.slice kp o.keys.length kc) ka HLL.out (by rw [hwa]; exact heap_alloc_new _ _) rfl 75
      obtain ⟨ov2, w6, hrun, hprow, hgr, hpo⟩ := hrun
      obtain ⟨ho6, hc6, cg6, fg6⟩ := HRA.os.addO HRA.bel.size ca k1 ka ⟨kp, kc, rfl, (HK4.out.on BA).mono HZW.out⟩ hprow hgr hpo
      obtain ⟨oq, on, od, hpf⟩ : ∃ a b c, ov2 = .slice a b c := by obtain ⟨a, c, e⟩ := row_form hprow; exact ⟨a, _, c, e⟩
      subst hpf
      have HR7 := keepH (HRA.put ho6 hc6)
      rw [← HNX.out] at HR7 cg6 fg6
      rw [← HNE.out] at HR7
      have hneb : b ≠ gT := fun e => by
        have h1 := HR3.out.bx
        rw [e] at h1
        rcases mT with ⟨cur, t', h2, h3⟩ | ⟨x, h2⟩
        · rw [h1] at h2
          injection h2 with h2
          injection h2 with _ h2
          subst h2
          exact nread h3
        · rw [cell_of h1 0] at h2
          injection h2 with h2
          cases h2
      have b6 : w6.heap[b]? = some (.cells (rdR ce sl stp mu (.slice (some ⟨gT, 0, none⟩) n tc) (.slice pp pn pc) a vb m) 105 (0, 0)) := by
        have e1 := HR7.out.bx
        have e2 : (w6.setCell ⟨gT, n', none⟩ (.slice oq on od)).heap[b]? = w6.heap[b]? := Below.heap_setCell _ _ _ _ hneb
        rw [← e2]
        exact e1
      have bO : w6.heap[O]? = some (.cells #[.int .u8 (o.k : Int), .int .u64 (o.key : Int), .int .u64 (o.val : Int), .int .u64 (o.old : Int), .int .u64 (o.hnd : Int), .bool o.set, .int .i64 o.rt, .int .i64 o.ri, .slice kp o.keys.length kc, .int .u64 (o.lo : Int), .int .u64 (o.hi : Int)] 28 (0, 0)) := (hgr.block O (Nat.lt_of_lt_of_le (Array.getElem?_eq_some_iff.1 HO4.out).1 BA.size) (fun e => hneO e.symm)).trans (heap_below HO4.out BA)
      obtain ⟨w7, hw7⟩ : ∃ w7, w7 = w6.setCell ⟨gT, n', none⟩ (.slice oq on od) := ⟨_, rfl⟩
      rw [← hw7] at HR7
      rw [hwa] at hrun
      have HRUN := keepH hrun
      have HW7 := keepH hw7
      have HCB : Hid ((w4.alloc (.cells #[.int .u8 (o.k : Int), .int .u64 (o.key : Int), .int .u64 (o.val : Int), .int .u64 (o.old : Int), .int .u64 (o.hnd : Int), .bool o.set, .int .i64 o.rt, .int .i64 o.ri, .slice kp o.keys.length kc, .int .u64 (o.lo : Int), .int .u64 (o.hi : Int)] 28)).cell? ⟨gT, n', none⟩ = some (.slice pv0 l0.length cv0)) := keepH (cell_below c0 (below_alloc _ _))
      have HS4 : Hid ((fun w => w.heap[b]? = some (.cells (rdR ce sl stp mu (.slice (some ⟨gT, 0, none⟩) n tc) (.slice pp pn pc) a vb m) 105 (0, 0)) ∧ w.heap[O]? = some (.cells #[.int .u8 (o.k : Int), .int .u64 (o.key : Int), .int .u64 (o.val : Int), .int .u64 (o.old : Int), .int .u64 (o.hnd : Int), .bool o.set, .int .i64 o.rt, .int .i64 o.ri, .slice kp o.keys.length kc, .int .u64 (o.lo : Int), .int .u64 (o.hi : Int)] 28 (0, 0))) w4.drew) := keepH ⟨HR4.out.bx, HO4.out⟩
      have HSA : Hid (wa.heap[b]? = some (.cells (rdR ce sl stp mu (.slice (some ⟨gT, 0, none⟩) n tc) (.slice pp pn pc) a vb m) 105 (0, 0)) ∧ wa.heap[O]? = some (.cells #[.int .u8 (o.k : Int), .int .u64 (o.key : Int), .int .u64 (o.val : Int), .int .u64 (o.old : Int), .int .u64 (o.hnd : Int), .bool o.set, .int .i64 o.rt, .int .i64 o.ri, .slice kp o.keys.length kc, .int .u64 (o.lo : Int), .int .u64 (o.hi : Int)] 28 (0, 0))) := keepH ⟨heap_below HR4.out.bx BA, heap_below HO4.out BA⟩
      have HS6 : Hid (w6.heap[b]? = some (.cells (rdR ce sl stp mu (.slice (some ⟨gT, 0, none⟩) n tc) (.slice pp pn pc) a vb m) 105 (0, 0)) ∧ w6.heap[O]? = some (.cells #[.int .u8 (o.k : Int), .int .u64 (o.key : Int), .int .u64 (o.val : Int), .int .u64 (o.old : Int), .int .u64 (o.hnd : Int), .bool o.set, .int .i64 o.rt, .int .i64 o.ri, .slice kp o.keys.length kc, .int .u64 (o.lo : Int), .int .u64 (o.hi : Int)] 28 (0, 0))) := keepH ⟨b6, bO⟩
      have HS7 : Hid (w7.heap[b]? = some (.cells (rdR ce sl stp mu (.slice (some ⟨gT, 0, none⟩) n tc) (.slice pp pn pc) a vb m) 105 (0, 0)) ∧ w7.heap[O]? = some (.cells #[.int .u8 (o.k : Int), .int .u64 (o.key : Int), .int .u64 (o.val : Int), .int .u64 (o.old : Int), .int .u64 (o.hnd : Int), .bool o.set, .int .i64 o.rt, .int .i64 o.ri, .slice kp o.keys.length kc, .int .u64 (o.lo : Int), .int .u64 (o.hi : Int)] 28 (0, 0))) := keepH ⟨HR7.out.bx, by rw [hw7]; exact other_of bO (Ne.symm hneG) _⟩
      have HCG := keepH cg6
      have HC4 : Hid (w4.drew.cell? ⟨gT, n', none⟩ = some (.slice pv0 l0.length cv0)) := keepH c0
      rw [hwa] at HSA
      have HF6 := keepH fg6
      obtain ⟨lv, hlv⟩ : ∃ lv, lv = l0.length := ⟨_, rfl⟩
      rw [← hlv] at HRUN HCG HC4 HCB
      clear hrun hprow hgr hpo ho6 hc6 cg6 fg6 hwa BA HRA ca ka HR4' b6 hw7 c0 k1 k2 hlv mT ltT c03 hneO hneG bO hO hw4 B4 k23 f03 hneb
      go_upto_region 5 with fail
      refine wp_region_held_drew (S := fun w => w.heap[b]? = some (.cells (rdR ce sl stp mu (.slice (some ⟨gT, 0, none⟩) n tc) (.slice pp pn pc) a vb m) 105 (0, 0)) ∧ w.heap[O]? = some (.cells #[.int .u8 (o.k : Int), .int .u64 (o.key : Int), .int .u64 (o.val : Int), .int .u64 (o.old : Int), .int .u64 (o.hnd : Int), .bool o.set, .int .i64 o.rt, .int .i64 o.ri, .slice kp o.keys.length kc, .int .u64 (o.lo : Int), .int .u64 (o.hi : Int)] 28 (0, 0))) (by kernel_rfl) (HS4.out) ?_
      intro hHeld
      refine wpAnyH_take (i := 0) (v := ?_) rfl (by kernel_rfl) (by kernel_rfl) (by kernel_rfl) (fun _ _ _ h => h) (Or.inl ⟨by rfl, ?_⟩) hHeld ?_
      rotate_left
      · intro w hSw
        (try dsimp only at hSw)
        go_simp
        try with_reducible rfl
      (try simp only [Act.put]); (try simp only [List.setIfInBounds_toArray]); (try simp only [List.getElem_toArray]); (repeat (first | simp only [List.getElem_cons_succ] | simp only [List.getElem_cons_zero])); (repeat (first | simp only [List.set_cons_succ] | simp only [List.set_cons_zero]))
      refine wpAnyH_take (i := 1) (v := ?_) rfl (by kernel_rfl) (by kernel_rfl) (by kernel_rfl) (fun _ _ _ h => h) (Or.inl ⟨by rfl, ?_⟩) hHeld ?_
      rotate_left
      · intro w hSw
        (try dsimp only at hSw)
        go_simp
        try with_reducible rfl
      (try simp only [Act.put]); (try simp only [List.setIfInBounds_toArray]); (try simp only [List.getElem_toArray]); (repeat (first | simp only [List.getElem_cons_succ] | simp only [List.getElem_cons_zero])); (repeat (first | simp only [List.set_cons_succ] | simp only [List.set_cons_zero]))
      refine wpAnyH_take (i := 2) (v := ?_) rfl (by kernel_rfl) (by kernel_rfl) (by kernel_rfl) (fun _ _ _ h => h) (Or.inl ⟨by rfl, ?_⟩) hHeld ?_
      rotate_left
      · intro w hSw
        (try dsimp only at hSw)
        go_simp
        try with_reducible rfl
      (try simp only [Act.put]); (try simp only [List.setIfInBounds_toArray]); (try simp only [List.getElem_toArray]); (repeat (first | simp only [List.getElem_cons_succ] | simp only [List.getElem_cons_zero])); (repeat (first | simp only [List.set_cons_succ] | simp only [List.set_cons_zero]))
      refine wpAnyH_take (i := 3) (v := ?_) rfl (by kernel_rfl) (by kernel_rfl) (by kernel_rfl) (fun _ _ _ h => h) (Or.inl ⟨by rfl, ?_⟩) hHeld ?_
      rotate_left
      · intro w hSw
        (try dsimp only at hSw)
        go_simp
        try with_reducible rfl
      (try simp only [Act.put]); (try simp only [List.setIfInBounds_toArray]); (try simp only [List.getElem_toArray]); (repeat (first | simp only [List.getElem_cons_succ] | simp only [List.getElem_cons_zero])); (repeat (first | simp only [List.set_cons_succ] | simp only [List.set_cons_zero]))
      refine wpAnyH_take (i := 4) (v := ?_) rfl (by kernel_rfl) (by kernel_rfl) (by kernel_rfl) (fun _ _ _ h => h) (Or.inl ⟨by rfl, ?_⟩) hHeld ?_
      rotate_left
      · intro w hSw
        (try dsimp only at hSw)
        have y4 := cell_of hSw.1 4
        go_simp
        try with_reducible rfl
      (try simp only [Act.put]); (try simp only [List.setIfInBounds_toArray]); (try simp only [List.getElem_toArray]); (repeat (first | simp only [List.getElem_cons_succ] | simp only [List.getElem_cons_zero])); (repeat (first | simp only [List.set_cons_succ] | simp only [List.set_cons_zero]))
      refine wpAnyH_take (i := 5) (v := ?_) rfl (by kernel_rfl) (by kernel_rfl) (by kernel_rfl) (fun _ _ _ h => h) (Or.inl ⟨by rfl, ?_⟩) hHeld ?_
      rotate_left
      · intro w hSw
        (try dsimp only at hSw)
        go_simp
        try with_reducible rfl
      (try simp only [Act.put]); (try simp only [List.setIfInBounds_toArray]); (try simp only [List.getElem_toArray]); (repeat (first | simp only [List.getElem_cons_succ] | simp only [List.getElem_cons_zero])); (repeat (first | simp only [List.set_cons_succ] | simp only [List.set_cons_zero]))
      refine wpAnyH_take (i := 6) (v := ?_) rfl (by kernel_rfl) (by kernel_rfl) (by kernel_rfl) (fun _ _ _ h => h) (Or.inl ⟨by rfl, ?_⟩) hHeld ?_
      rotate_left
      · intro w hSw
        (try dsimp only at hSw)
        go_simp
        try with_reducible rfl
      (try simp only [Act.put]); (try simp only [List.setIfInBounds_toArray]); (try simp only [List.getElem_toArray]); (repeat (first | simp only [List.getElem_cons_succ] | simp only [List.getElem_cons_zero])); (repeat (first | simp only [List.set_cons_succ] | simp only [List.set_cons_zero]))
      refine wpAnyH_take (i := 7) (v := ?_) rfl (by kernel_rfl) (by kernel_rfl) (by kernel_rfl) (fun _ _ _ h => h) (Or.inl ⟨by rfl, ?_⟩) hHeld ?_
      rotate_left
      · intro w hSw
        (try dsimp only at hSw)
        go_simp
        try with_reducible rfl
      (try simp only [Act.put]); (try simp only [List.setIfInBounds_toArray]); (try simp only [List.getElem_toArray]); (repeat (first | simp only [List.getElem_cons_succ] | simp only [List.getElem_cons_zero])); (repeat (first | simp only [List.set_cons_succ] | simp only [List.set_cons_zero]))
      refine wpAnyH_take (i := 8) (v := ?_) rfl (by kernel_rfl) (by kernel_rfl) (by kernel_rfl) (fun _ _ _ h => h) (Or.inl ⟨by rfl, ?_⟩) hHeld ?_
      rotate_left
      · intro w hSw
        (try dsimp only at hSw)
        go_simp
        try with_reducible rfl
      (try simp only [Act.put]); (try simp only [List.setIfInBounds_toArray]); (try simp only [List.getElem_toArray]); (repeat (first | simp only [List.getElem_cons_succ] | simp only [List.getElem_cons_zero])); (repeat (first | simp only [List.set_cons_succ] | simp only [List.set_cons_zero]))
      refine wpAnyH_take (i := 9) (v := ?_) rfl (by kernel_rfl) (by kernel_rfl) (by kernel_rfl) (fun _ _ _ h => h) (Or.inl ⟨by rfl, ?_⟩) hHeld ?_
      rotate_left
      · intro w hSw
        (try dsimp only at hSw)
        go_simp
        try with_reducible rfl
      (try simp only [Act.put]); (try simp only [List.setIfInBounds_toArray]); (try simp only [List.getElem_toArray]); (repeat (first | simp only [List.getElem_cons_succ] | simp only [List.getElem_cons_zero])); (repeat (first | simp only [List.set_cons_succ] | simp only [List.set_cons_zero]))
      refine wpAnyH_take (i := 10) (v := ?_) rfl (by kernel_rfl) (by kernel_rfl) (by kernel_rfl) (fun _ _ _ h => h) (Or.inl ⟨by rfl, ?_⟩) hHeld ?_
      rotate_left
      · intro w hSw
        (try dsimp only at hSw)
        have y4 := cell_of hSw.1 4
        go_simp
        try with_reducible rfl
      (try simp only [Act.put]); (try simp only [List.setIfInBounds_toArray]); (try simp only [List.getElem_toArray]); (repeat (first | simp only [List.getElem_cons_succ] | simp only [List.getElem_cons_zero])); (repeat (first | simp only [List.set_cons_succ] | simp only [List.set_cons_zero]))
      refine wpAnyH_take (i := 11) (v := ?_) rfl (by kernel_rfl) (by kernel_rfl) (by kernel_rfl) (fun _ _ _ h => h) (Or.inl ⟨by rfl, ?_⟩) hHeld ?_
      rotate_left
      · intro w hSw
        (try dsimp only at hSw)
        go_simp
        try with_reducible rfl
      (try simp only [Act.put]); (try simp only [List.setIfInBounds_toArray]); (try simp only [List.getElem_toArray]); (repeat (first | simp only [List.getElem_cons_succ] | simp only [List.getElem_cons_zero])); (repeat (first | simp only [List.set_cons_succ] | simp only [List.set_cons_zero]))
      refine wpAnyH_take (i := 12) (v := ?_) rfl (by kernel_rfl) (by kernel_rfl) (by kernel_rfl) (fun _ _ _ h => h) (Or.inl ⟨by rfl, ?_⟩) hHeld ?_
      rotate_left
      · intro w hSw
        (try dsimp only at hSw)
        go_simp
        try with_reducible rfl
      (try simp only [Act.put]); (try simp only [List.setIfInBounds_toArray]); (try simp only [List.getElem_toArray]); (repeat (first | simp only [List.getElem_cons_succ] | simp only [List.getElem_cons_zero])); (repeat (first | simp only [List.set_cons_succ] | simp only [List.set_cons_zero]))
      refine wpAnyH_take (i := 14) (v := ?_) rfl (by kernel_rfl) (by kernel_rfl) (by kernel_rfl) (fun _ _ _ h => h) (Or.inl ⟨by rfl, ?_⟩) hHeld ?_
      rotate_left
      · intro w hSw
        (try dsimp only at hSw)
        have z0 := cell_of hSw.2 0
        have z1 := cell_of hSw.2 1
        have z2 := cell_of hSw.2 2
        have z3 := cell_of hSw.2 3
        have z4 := cell_of hSw.2 4
        have z5 := cell_of hSw.2 5
        have z6 := cell_of hSw.2 6
        have z7 := cell_of hSw.2 7
        have z8 := cell_of hSw.2 8
        have z9 := cell_of hSw.2 9
        have z10 := cell_of hSw.2 10
        go_simp
        try with_reducible rfl
      (try simp only [Act.put]); (try simp only [List.setIfInBounds_toArray]); (try simp only [List.getElem_toArray]); (repeat (first | simp only [List.getElem_cons_succ] | simp only [List.getElem_cons_zero])); (repeat (first | simp only [List.set_cons_succ] | simp only [List.set_cons_zero]))
      refine wpAnyH_ready (rs := [13, 15]) (by kernel_rfl) (by simp) ?_
      refine AllReadyH.cons rfl (fun KK hKK => ?_) (AllReadyH.cons rfl (fun KK hKK => ?_) AllReadyH.nil)
      · skip
        have y9 := HC4.out
        go_simp
        refine hKK.out _ _ ?_ (fun hHeld => ?_)
        · exact HS4.out
        clear hKK KK y9
        (try simp only [Act.put]); (try simp only [List.setIfInBounds_toArray]); (try simp only [List.getElem_toArray]); (repeat (first | simp only [List.getElem_cons_succ] | simp only [List.getElem_cons_zero])); (repeat (first | simp only [List.set_cons_succ] | simp only [List.set_cons_zero]))
        refine wpAnyH_ready (rs := [15]) (by kernel_rfl) (by simp) ?_
        refine AllReadyH.cons rfl (fun KK hKK => ?_) AllReadyH.nil
        go_simp
        refine hKK.out _ _ ?_ (fun hHeld => ?_)
        · exact HSA.out
        clear hKK KK
        (try simp only [Act.put]); (try simp only [List.setIfInBounds_toArray]); (try simp only [List.getElem_toArray]); (repeat (first | simp only [List.getElem_cons_succ] | simp only [List.getElem_cons_zero])); (repeat (first | simp only [List.set_cons_succ] | simp only [List.set_cons_zero]))
        refine wpAnyH_ready (rs := [16]) (by kernel_rfl) (by simp) ?_
        refine AllReadyH.cons rfl (fun KK hKK => ?_) AllReadyH.nil
        refine step_append_runS rfl (.tmp 46) (.tmp 48) 75 rfl _ _ _ _ rfl rfl HRUN.out ?_
        refine hKK.out _ _ ?_ (fun hHeld => ?_)
        · exact HS6.out
        clear hKK KK
        (try simp only [Act.put]); (try simp only [List.setIfInBounds_toArray]); (try simp only [List.getElem_toArray]); (repeat (first | simp only [List.getElem_cons_succ] | simp only [List.getElem_cons_zero])); (repeat (first | simp only [List.set_cons_succ] | simp only [List.set_cons_zero]))
        refine wpAnyH_take (i := 17) (v := ?_) rfl (by kernel_rfl) (by kernel_rfl) (by kernel_rfl) (fun _ _ _ h => h) (Or.inl ⟨by rfl, ?_⟩) hHeld ?_
        rotate_left
        · intro w hSw
          (try dsimp only at hSw)
          go_simp
          try with_reducible rfl
        (try simp only [Act.put]); (try simp only [List.setIfInBounds_toArray]); (try simp only [List.getElem_toArray]); (repeat (first | simp only [List.getElem_cons_succ] | simp only [List.getElem_cons_zero])); (repeat (first | simp only [List.set_cons_succ] | simp only [List.set_cons_zero]))
        have y9 := HCG.out
        have y8 := HF6.out
        refine wpAnyH_ready (rs := [18]) (by kernel_rfl) (by simp) ?_
        refine AllReadyH.cons rfl (fun KK hKK => ?_) AllReadyH.nil
        go_simp
        refine hKK.out _ _ ?_ (fun hHeld => ?_)
        · (rw [← HW7.out]; exact HS7.out)
        clear hKK KK
        (try simp only [Act.put]); (try simp only [List.setIfInBounds_toArray]); (try simp only [List.getElem_toArray]); (repeat (first | simp only [List.getElem_cons_succ] | simp only [List.getElem_cons_zero])); (repeat (first | simp only [List.set_cons_succ] | simp only [List.set_cons_zero]))
        clear y9 y8
        refine wpAnyH_done (by kernel_rfl) ?_ _
        go_simp
        clear hHeld
        rw [← HW7.out]
        clear HW7 HRUN HS4 HSA HS6 HS7 HF6 HO4 HCG HC4 HCB
        go_wp2_with fail
        go_ret
        cases ok2
        · exact ⟨false, rfl, HR7.out.bel, fun e => (nomatch e), fun _ => no_op HSP.out HNO.out.1 HNO.out.2.1 HNO.out.2.2 (.inr (.inr (pq_not HPO2.out)))⟩
        · refine ⟨true, rfl, HR7.out.bel, fun _ => ⟨⟨ce, sl, stp, mu, ts0 ++ [l0 ++ [o]], ps⟩, by rw [HX.out]; exact yes_op HPS.out HPO2.out, ce, sl, stp, mu, .slice (some ⟨gT, 0, none⟩) n tc, .slice pp pn pc, ts0 ++ [l0 ++ [o]], ps, ?_, fun e => (nomatch e), fun x e => by injection e with e; exact e.symm⟩, fun e => (nomatch e)⟩
          have hat : atN (some (Rdg.mk ce sl stp mu (ts0 ++ [l0 ++ [o]]) ps)) = a := by
            have h9 := HPS.out
            simp only [atN]
            rw [if_pos h9]
            exact HHA.out.symm
          rw [hat]
          exact HR7.out
      · skip
        go_simp
        refine hKK.out _ _ ?_ (fun hHeld => ?_)
        · exact HSA.out
        clear hKK KK
        (try simp only [Act.put]); (try simp only [List.setIfInBounds_toArray]); (try simp only [List.getElem_toArray]); (repeat (first | simp only [List.getElem_cons_succ] | simp only [List.getElem_cons_zero])); (repeat (first | simp only [List.set_cons_succ] | simp only [List.set_cons_zero]))
        have y9 := HCB.out
        refine wpAnyH_ready (rs := [13]) (by kernel_rfl) (by simp) ?_
        refine AllReadyH.cons rfl (fun KK hKK => ?_) AllReadyH.nil
        go_simp
        refine hKK.out _ _ ?_ (fun hHeld => ?_)
        · exact HSA.out
        clear hKK KK
        (try simp only [Act.put]); (try simp only [List.setIfInBounds_toArray]); (try simp only [List.getElem_toArray]); (repeat (first | simp only [List.getElem_cons_succ] | simp only [List.getElem_cons_zero])); (repeat (first | simp only [List.set_cons_succ] | simp only [List.set_cons_zero]))
        clear y9
        refine wpAnyH_ready (rs := [16]) (by kernel_rfl) (by simp) ?_
        refine AllReadyH.cons rfl (fun KK hKK => ?_) AllReadyH.nil
        refine step_append_runS rfl (.tmp 46) (.tmp 48) 75 rfl _ _ _ _ rfl rfl HRUN.out ?_
        refine hKK.out _ _ ?_ (fun hHeld => ?_)
        · exact HS6.out
        clear hKK KK
        (try simp only [Act.put]); (try simp only [List.setIfInBounds_toArray]); (try simp only [List.getElem_toArray]); (repeat (first | simp only [List.getElem_cons_succ] | simp only [List.getElem_cons_zero])); (repeat (first | simp only [List.set_cons_succ] | simp only [List.set_cons_zero]))
        refine wpAnyH_take (i := 17) (v := ?_) rfl (by kernel_rfl) (by kernel_rfl) (by kernel_rfl) (fun _ _ _ h => h) (Or.inl ⟨by rfl, ?_⟩) hHeld ?_
        rotate_left
        · intro w hSw
          (try dsimp only at hSw)
          go_simp
          try with_reducible rfl
        (try simp only [Act.put]); (try simp only [List.setIfInBounds_toArray]); (try simp only [List.getElem_toArray]); (repeat (first | simp only [List.getElem_cons_succ] | simp only [List.getElem_cons_zero])); (repeat (first | simp only [List.set_cons_succ] | simp only [List.set_cons_zero]))
        have y9 := HCG.out
        have y8 := HF6.out
        refine wpAnyH_ready (rs := [18]) (by kernel_rfl) (by simp) ?_
        refine AllReadyH.cons rfl (fun KK hKK => ?_) AllReadyH.nil
        go_simp
        refine hKK.out _ _ ?_ (fun hHeld => ?_)
        · (rw [← HW7.out]; exact HS7.out)
        clear hKK KK
        (try simp only [Act.put]); (try simp only [List.setIfInBounds_toArray]); (try simp only [List.getElem_toArray]); (repeat (first | simp only [List.getElem_cons_succ] | simp only [List.getElem_cons_zero])); (repeat (first | simp only [List.set_cons_succ] | simp only [List.set_cons_zero]))
        clear y9 y8
        refine wpAnyH_done (by kernel_rfl) ?_ _
        go_simp
        clear hHeld
        rw [← HW7.out]
        clear HW7 HRUN HS4 HSA HS6 HS7 HF6 HO4 HCG HC4 HCB
        go_wp2_with fail
        go_ret
        cases ok2
        · exact ⟨false, rfl, HR7.out.bel, fun e => (nomatch e), fun _ => no_op HSP.out HNO.out.1 HNO.out.2.1 HNO.out.2.2 (.inr (.inr (pq_not HPO2.out)))⟩
        · refine ⟨true, rfl, HR7.out.bel, fun _ => ⟨⟨ce, sl, stp, mu, ts0 ++ [l0 ++ [o]], ps⟩, by rw [HX.out]; exact yes_op HPS.out HPO2.out, ce, sl, stp, mu, .slice (some ⟨gT, 0, none⟩) n tc, .slice pp pn pc, ts0 ++ [l0 ++ [o]], ps, ?_, fun e => (nomatch e), fun x e => by injection e with e; exact e.symm⟩, fun e => (nomatch e)⟩
          have hat : atN (some (Rdg.mk ce sl stp mu (ts0 ++ [l0 ++ [o]]) ps)) = a := by
            have h9 := HPS.out
            simp only [atN]
            rw [if_pos h9]
            exact HHA.out.symm
          rw [hat]
          exact HR7.out
  · have q1 : ((a : Int) != 1) = true := by simp; omega
    have HNG : Hid (NoG st t) := keepH (no_op HSP.out HNO.out.1 HNO.out.2.1 HNO.out.2.2 (.inl (fun e => h1 (HA.out.trans e))))
    clear h1
    by_cases h0 : n = 0
    · have y1 : (n : Int) - 1 = -1 := by omega
      clear h0
      go_enter Tryz.func92, Tryz.ntmps92
      go_wp2_with fail
      go_ret
      exact ⟨false, rfl, HRS.out.bel, fun e => (nomatch e), fun _ => HNG.out⟩
    · obtain ⟨n', hn'⟩ : ∃ n', n = n' + 1 := ⟨n - 1, by omega⟩
      have y1 : (n : Int) - 1 = (n' : Int) := by omega
      clear h0 hn'
      go_enter Tryz.func92, Tryz.ntmps92
      go_wp2_with fail
      go_ret
      exact ⟨false, rfl, HRS.out.bel, fun e => (nomatch e), fun _ => HNG.out⟩
end Go.Proofs.YtmmaniolaljjlaaGreatDoor
