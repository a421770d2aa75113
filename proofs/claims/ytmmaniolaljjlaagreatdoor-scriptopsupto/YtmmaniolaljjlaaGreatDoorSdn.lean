/- The law ScriptOps, walked. (mkSdn.py) -/
import Derived.Test.YtmmaniolaljjlaaGreatDoorSdj
import Derived.Test.YtmmaniolaljjlaaGreatDoorSdl
import Derived.Test.YtmmaniolaljjlaaGreatDoorSdf
import Derived.Test.YtmmaniolaljjlaaGreatDoorScx
import Derived.Deep.RegionHeld
namespace Go.Proofs.YtmmaniolaljjlaaGreatDoor
open Go.RowKit Go.Shelf
set_option linter.unusedVariables false

theorem pq_one {t : List UInt8} {ok ok' : Bool} {p q : Opx} (h : PQ t ok p) (hz : ok = false → p = zeroO) (h' : PQ t ok' q) (hz' : ok' = false → q = zeroO) : ok = ok' ∧ p = q := by
  cases ok with
  | true =>
    obtain ⟨h1, h2⟩ := h.1 rfl
    obtain ⟨a, b⟩ := h'.2 p h1 h2
    exact ⟨a.symm, b.symm⟩
  | false =>
    cases ok' with
    | true =>
      obtain ⟨h1, h2⟩ := h'.1 rfl
      have := (h.2 q h1 h2).1
      simp at this
    | false => exact ⟨rfl, (hz rfl).trans (hz' rfl).symm⟩
theorem right_keys {o : Opx} (h : rightO o) : o.keys.length ≤ 1024 := by
  have R := right_parts h
  cases e : kysK o.k with
  | true => exact R.kys e
  | false => rw [R.nokys e]; simp
theorem pq_small {t : List UInt8} {ok : Bool} {p : Opx} (h : PQ t ok p) (hz : ok = false → p = zeroO) : isI p.rt ∧ isI p.ri ∧ p.keys.length ≤ 10000000 := by
  cases ok with
  | true =>
    obtain ⟨h1, h2⟩ := h.1 rfl
    exact ⟨h1.1.rt, h1.1.ri, by have := right_keys h1; omega⟩
  | false =>
    rw [hz rfl]
    exact ⟨⟨by decide, by decide⟩, ⟨by decide, by decide⟩, by decide⟩
set_option maxRecDepth 100000 in
set_option maxHeartbeats 8000000 in
theorem ops_walk (o : Opx) (kp : Option Addr) (kc : Nat) (t : List UInt8) (ea : Int) (fa : Bool) (va : Nat) (da : Bool) (ha : Nat) (pp : Option Addr) (l : List (Nat × Nat)) (pc ct : Nat) (hO : o.Ok) (hkl : o.keys.length ≤ 10000000) (ht : t.length ≤ 5000000)
    (he : isI ea) (hv : isU va) (hh : isU ha) (hct : isU ct) (hl : l.length ≤ 10000000) (hu : ∀ q ∈ l, isU q.1 ∧ isU q.2) (W : World) (hW : Wd W) (T : Tb W) (hK : KRd W kp o.keys) (hR : PRd W pp l) :
    Calls Tryz.prog 3 #[.agg (opV o kp kc), .string (mkS t), .agg (ansR ea fa va da ha pp l.length pc ct)] W fun e' W' => e' = .returned (.bool true) ∧ Below W.heap.size W W' := by
  obtain ⟨k, key, val, old, hnd, set, rt, ri, keys, lo, hi⟩ := o
  simp only at hkl hK
  obtain ⟨tx, ha1, ha2⟩ := ans_both k ea fa va da ha pp l pc ct hO.k he hv hh hct hl hu W T hR
  have HA1 := keepH ha1
  have HA2 := keepH ha2
  have hpo := fun w (hb : Below W.heap.size W w) => printOp_any k key val old hnd set rt ri kp kc lo hi keys hO.k hO.key hO.val hO.old hO.hnd hO.lo hO.hi hO.rt hO.ri hO.keys hkl w (hW.on hb) (T.on hb) (hK.on hb)
  have hpd := fun w (hb : Below W.heap.size W w) => dPrintOp_any k key val old hnd set rt ri kp kc lo hi keys hO.k hO.key hO.val hO.old hO.hnd hO.lo hO.hi hO.rt hO.ri hO.keys hkl w (T.on hb) (hK.on hb)
  have HPA := keepH (fun w (hb : Below W.heap.size W w) => parseOp_any t ht w (hW.on hb) (T.on hb))
  have HPB := keepH (fun w (hb : Below W.heap.size W w) => dParseOp_any t ht w (T.on hb))
  have HLV := keepH (fun w (hb : Below W.heap.size W w) => sLive_any w (hW.on hb) (T.on hb))
  simp only [opV]
  obtain ⟨n, hn⟩ : ∃ n, n = keys.length := ⟨_, rfl⟩
  obtain ⟨na, hna⟩ : ∃ na, na = l.length := ⟨_, rfl⟩
  rw [← hna] at HA1 HA2 ⊢
  rw [← hn] at hpo hpd ⊢
  have HPO := keepH hpo
  have HPD := keepH hpd
  obtain ⟨st, hst⟩ : ∃ s, s = mkS t := ⟨_, rfl⟩
  rw [← hst] at HPA HPB ⊢
  obtain ⟨sx, hsx⟩ : ∃ s, s = mkS tx := ⟨_, rfl⟩
  rw [← hsx] at HA1 HA2
  have qx : (sx.toList == sx.toList) = true := by simp
  obtain ⟨w2, hw2⟩ : ∃ w2, w2 = (W.alloc (.cells (opR k key val old hnd set rt ri (.slice kp n kc) lo hi) 28)).alloc (.cells (ansR ea fa va da ha pp na pc ct) 32) := ⟨_, rfl⟩
  obtain ⟨A3, hA3⟩ : ∃ A, A = W.heap.size := ⟨_, rfl⟩
  obtain ⟨A5, hA5⟩ : ∃ A, A = W.heap.size + 1 := ⟨_, rfl⟩
  have HB2 : Hid (Below W.heap.size W w2) := keepH (by rw [hw2]; exact (below_alloc _ _).trans ((below_alloc _ _).mono (by simp)))
  have HX3 : Hid (w2.heap[A3]? = some (.cells (opR k key val old hnd set rt ri (.slice kp n kc) lo hi) 28 (0, 0))) := keepH (by
    rw [hw2, hA3, Below.heap_alloc _ _ _ (by simp)]
    exact heap_alloc_new _ _)
  have HX5 : Hid (w2.heap[A5]? = some (.cells (ansR ea fa va da ha pp na pc ct) 32 (0, 0))) := keepH (by
    rw [hw2, hA5]
    have := heap_alloc_new (W.alloc (.cells (opR k key val old hnd set rt ri (.slice kp n kc) lo hi) 28)) (.cells (ansR ea fa va da ha pp na pc ct) 32)
    simpa using this)
  have HW2 := keepH hw2
  have H3 := keepH hA3
  have H5 := keepH hA5
  have HP1 := keepH (HPO.out w2 HB2.out)
  clear hn hna hst hsx hw2 hA3 hA5 hpo hpd ha1 ha2 hO hkl ht he hv hh hct hl hu hW T hK hR HPO
  go_enter Tryz.func3, Tryz.ntmps3
  go_upto_region 1 with fail
  rw [← HW2.out, ← H5.out, ← H3.out]
  clear HW2 H5 H3
  have d0 : w2.cell? ⟨A3, 0, none⟩ = _ := cell_of HX3.out 0
  have d1 : w2.cell? ⟨A3, 1, none⟩ = _ := cell_of HX3.out 1
  have d2 : w2.cell? ⟨A3, 2, none⟩ = _ := cell_of HX3.out 2
  have d3 : w2.cell? ⟨A3, 3, none⟩ = _ := cell_of HX3.out 3
  have d4 : w2.cell? ⟨A3, 4, none⟩ = _ := cell_of HX3.out 4
  have d5 : w2.cell? ⟨A3, 5, none⟩ = _ := cell_of HX3.out 5
  have d6 : w2.cell? ⟨A3, 6, none⟩ = _ := cell_of HX3.out 6
  have d7 : w2.cell? ⟨A3, 7, none⟩ = _ := cell_of HX3.out 7
  have d8 : w2.cell? ⟨A3, 8, none⟩ = _ := cell_of HX3.out 8
  have d9 : w2.cell? ⟨A3, 9, none⟩ = _ := cell_of HX3.out 9
  have d10 : w2.cell? ⟨A3, 10, none⟩ = _ := cell_of HX3.out 10
  go_wp2_with fail
  refine HP1.out.mono ?_
  rintro e w3 ⟨E, hE, rfl, B3⟩
  clear d0 d1 d2 d3 d4 d5 d6 d7 d8 d9 d10
  have HE := keepH hE
  obtain ⟨sy, hsy⟩ : ∃ s, s = mkS (if E = 0 then opT k key val old hnd set rt ri keys lo hi else []) := ⟨_, rfl⟩
  rw [← hsy]
  have qy : (sy.toList == sy.toList) = true := by simp
  have HSY := keepH hsy
  have HB3 := keepH (below_chain HB2.out B3)
  have HX3b := keepH (heap_below HX3.out B3)
  have HX5b := keepH (heap_below HX5.out B3)
  have HP2 := keepH (HPD.out w3 HB3.out)
  clear hE B3 HX3 HX5 HB2 HP1 hsy
  have d0 : w3.cell? ⟨A3, 0, none⟩ = _ := cell_of HX3b.out 0
  have d1 : w3.cell? ⟨A3, 1, none⟩ = _ := cell_of HX3b.out 1
  have d2 : w3.cell? ⟨A3, 2, none⟩ = _ := cell_of HX3b.out 2
  have d3 : w3.cell? ⟨A3, 3, none⟩ = _ := cell_of HX3b.out 3
  have d4 : w3.cell? ⟨A3, 4, none⟩ = _ := cell_of HX3b.out 4
  have d5 : w3.cell? ⟨A3, 5, none⟩ = _ := cell_of HX3b.out 5
  have d6 : w3.cell? ⟨A3, 6, none⟩ = _ := cell_of HX3b.out 6
  have d7 : w3.cell? ⟨A3, 7, none⟩ = _ := cell_of HX3b.out 7
  have d8 : w3.cell? ⟨A3, 8, none⟩ = _ := cell_of HX3b.out 8
  have d9 : w3.cell? ⟨A3, 9, none⟩ = _ := cell_of HX3b.out 9
  have d10 : w3.cell? ⟨A3, 10, none⟩ = _ := cell_of HX3b.out 10
  go_wp2_with fail
  refine HP2.out.mono ?_
  rintro e w4 ⟨E', hE', rfl, B4⟩
  obtain rfl : E' = E := hE'.trans HE.out.symm
  clear d0 d1 d2 d3 d4 d5 d6 d7 d8 d9 d10
  rw [← HSY.out]
  have HB4 := keepH (below_chain HB3.out B4)
  have HX3c := keepH (heap_below HX3b.out B4)
  have HX5c := keepH (heap_below HX5b.out B4)
  have HP3 := keepH (HPA.out w4 HB4.out)
  clear hE' B4 HX3b HX5b HB3 HP2 HE HPD HPA
  go_wp2_with fail
  refine HP3.out.mono ?_
  rintro e w5 ⟨ok, p, kp1, kc1, rfl, hpq, hku, hzo, B5⟩
  obtain ⟨er, her⟩ : ∃ er : Int, er = (if ok = true then 0 else 52) := ⟨_, rfl⟩
  rw [← her]
  have HER := keepH her
  clear her
  have HPQ := keepH hpq
  have HKU := keepH hku
  have HZO := keepH hzo
  have HB5 := keepH (below_chain HB4.out B5)
  have HX3d := keepH (heap_below HX3c.out B5)
  have HX5d := keepH (heap_below HX5c.out B5)
  clear hpq hku hzo B5 HX3c HX5c HB4 HP3
  obtain ⟨k2, key2, val2, old2, hnd2, set2, rt2, ri2, keys2, lo2, hi2⟩ := p
  simp only [opV]
  obtain ⟨n2, hn2⟩ : ∃ n, n = keys2.length := ⟨_, rfl⟩
  rw [← hn2]
  have HN2 := keepH hn2
  obtain ⟨w6, hw6⟩ : ∃ w6, w6 = w5.alloc (.cells (opR k2 key2 val2 old2 hnd2 set2 rt2 ri2 (.slice kp1 n2 kc1) lo2 hi2) 28) := ⟨_, rfl⟩
  obtain ⟨Q1, hQ1⟩ : ∃ Q, Q = w5.heap.size := ⟨_, rfl⟩
  have B6 : Below w5.heap.size w5 w6 := by rw [hw6]; exact below_alloc _ _
  have HY6 : Hid (w6.heap[Q1]? = some (.cells (opR k2 key2 val2 old2 hnd2 set2 rt2 ri2 (.slice kp1 n2 kc1) lo2 hi2) 28 (0, 0))) := keepH (by rw [hw6, hQ1]; exact heap_alloc_new _ _)
  have HB6 := keepH (below_chain HB5.out B6)
  have HX3e := keepH (heap_below HX3d.out B6)
  have HX5e := keepH (heap_below HX5d.out B6)
  have HK6 := keepH (HKU.out.on B6)
  have HP4 := keepH (HPB.out w6 HB6.out)
  have HW6 := keepH hw6
  have HQ1 := keepH hQ1
  clear hn2 hw6 hQ1 B6 HX3d HX5d HB5 HKU HPB
  go_upto_region 4 with fail
  rw [← HW6.out, ← HQ1.out]
  clear HW6 HQ1
  go_wp2_with fail
  refine HP4.out.mono ?_
  rintro e w7 ⟨ok', q, kp2, kc2, rfl, hpq, hku, hzo, B7⟩
  obtain ⟨e1, e2⟩ := pq_one HPQ.out HZO.out hpq hzo
  subst e1 e2
  obtain ⟨hs1, hs2, hs3⟩ := pq_small HPQ.out HZO.out
  simp only at hs1 hs2 hs3
  rw [← HER.out]
  simp only [opV]
  rw [← HN2.out]
  have qe : (er == er) = true := by simp
  have qE : ((E' : Int) == (E' : Int)) = true := by simp
  obtain ⟨w8, hw8⟩ : ∃ w8, w8 = w7.alloc (.cells (opR k2 key2 val2 old2 hnd2 set2 rt2 ri2 (.slice kp2 n2 kc2) lo2 hi2) 28) := ⟨_, rfl⟩
  obtain ⟨Q2, hQ2⟩ : ∃ Q, Q = w7.heap.size := ⟨_, rfl⟩
  have B8 : Below w7.heap.size w7 w8 := by rw [hw8]; exact below_alloc _ _
  have HY8 : Hid (w8.heap[Q2]? = some (.cells (opR k2 key2 val2 old2 hnd2 set2 rt2 ri2 (.slice kp2 n2 kc2) lo2 hi2) 28 (0, 0))) := keepH (by rw [hw8, hQ2]; exact heap_alloc_new _ _)
  have B78 := below_chain B7 B8
  have HB8 := keepH (below_chain HB6.out B78)
  have HS8 : Hid (w8.drew.heap[A3]? = some (.cells (opR k key val old hnd set rt ri (.slice kp n kc) lo hi) 28 (0, 0)) ∧ w8.drew.heap[A5]? = some (.cells (ansR ea fa va da ha pp na pc ct) 32 (0, 0)) ∧ w8.drew.heap[Q1]? = some (.cells (opR k2 key2 val2 old2 hnd2 set2 rt2 ri2 (.slice kp1 n2 kc1) lo2 hi2) 28 (0, 0)) ∧ w8.drew.heap[Q2]? = some (.cells (opR k2 key2 val2 old2 hnd2 set2 rt2 ri2 (.slice kp2 n2 kc2) lo2 hi2) 28 (0, 0))) := keepH ⟨(heap_below HX3e.out B78 :), (heap_below HX5e.out B78 :), (heap_below HY6.out B78 :), HY8.out⟩
  have hk1 := (HK6.out.on B78).krd
  have hk2 := (hku.on B8).krd
  have hso := fun w (hb : Below w8.heap.size w8 w) => sameOp_any k2 key2 val2 old2 hnd2 set2 rt2 ri2 kp1 kp2 kc1 kc2 lo2 hi2 keys2 hs1 hs2 hs3 w (hk1.on hb) (hk2.on hb)
  rw [← HN2.out] at hso
  have HSO := keepH hso
  have HW8 := keepH hw8
  have HQ2 := keepH hQ2
  clear hpq hku hzo hs1 hs2 hs3 hw8 hQ2 B7 B8 B78 hk1 hk2 hso HPQ HZO HX3e HX5e HY6 HY8 HK6 HP4 HB6
  go_upto_region 5 with fail
  rw [← HW8.out, ← HQ2.out]
  clear HW8 HQ2
  refine wp_region_held_drew (S := fun w => w.heap[A3]? = some (.cells (opR k key val old hnd set rt ri (.slice kp n kc) lo hi) 28 (0, 0)) ∧ w.heap[A5]? = some (.cells (ansR ea fa va da ha pp na pc ct) 32 (0, 0)) ∧ w.heap[Q1]? = some (.cells (opR k2 key2 val2 old2 hnd2 set2 rt2 ri2 (.slice kp1 n2 kc1) lo2 hi2) 28 (0, 0)) ∧ w.heap[Q2]? = some (.cells (opR k2 key2 val2 old2 hnd2 set2 rt2 ri2 (.slice kp2 n2 kc2) lo2 hi2) 28 (0, 0))) (by kernel_rfl) (HS8.out) ?_
  intro hHeld
  refine wpAnyH_ready (rs := [0]) (by kernel_rfl) (by simp) ?_
  refine AllReadyH.cons rfl (fun KK hKK => ?_) AllReadyH.nil
  go_simp
  refine (HLV.out _ (below_drewN HB8.out 1)).mono ?_
  rintro e v1 ⟨rfl, D9⟩
  have HV1 := keepH (below_chain (below_drewN (Below.refl _ w8) 1) D9)
  have hcc := And.intro (heap_below hHeld.1 D9) (And.intro (heap_below hHeld.2.1 D9) (And.intro (heap_below hHeld.2.2.1 D9) (heap_below hHeld.2.2.2 D9)))
  clear D9
  refine hKK.out _ _ ?_ (fun hHeld => ?_)
  · exact hcc
  clear hKK KK
  (try simp only [Act.put]); (try simp only [List.setIfInBounds_toArray]); (try simp only [List.getElem_toArray]); (repeat (first | simp only [List.getElem_cons_succ] | simp only [List.getElem_cons_zero])); (repeat (first | simp only [List.set_cons_succ] | simp only [List.set_cons_zero]))
  refine wpAnyH_take (i := 1) (v := ?_) rfl (by kernel_rfl) (by kernel_rfl) (by kernel_rfl) (fun _ _ _ h => h) (Or.inl ⟨by rfl, ?_⟩) hHeld ?_
  rotate_left
  · intro w hSw
    (try dsimp only at hSw)
    go_simp
    try with_reducible rfl
  (try simp only [Act.put]); (try simp only [List.setIfInBounds_toArray]); (try simp only [List.getElem_toArray]); (repeat (first | simp only [List.getElem_cons_succ] | simp only [List.getElem_cons_zero])); (repeat (first | simp only [List.set_cons_succ] | simp only [List.set_cons_zero]))
  refine wpAnyH_take (i := 2) (v := ?_) rfl (by kernel_rfl) (by kernel_rfl) (by kernel_rfl) (fun _ _ _ h => h) (Or.inl ⟨by rfl, ?_⟩) hHeld ?_
  rotate_left
  · intro w hSw
    (try dsimp only at hSw)
    go_simp
    try with_reducible rfl
  (try simp only [Act.put]); (try simp only [List.setIfInBounds_toArray]); (try simp only [List.getElem_toArray]); (repeat (first | simp only [List.getElem_cons_succ] | simp only [List.getElem_cons_zero])); (repeat (first | simp only [List.set_cons_succ] | simp only [List.set_cons_zero]))
  refine wpAnyH_take (i := 3) (v := ?_) rfl (by kernel_rfl) (by kernel_rfl) (by kernel_rfl) (fun _ _ _ h => h) (Or.inl ⟨by rfl, ?_⟩) hHeld ?_
  rotate_left
  · intro w hSw
    (try dsimp only at hSw)
    go_simp
    try with_reducible rfl
  (try simp only [Act.put]); (try simp only [List.setIfInBounds_toArray]); (try simp only [List.getElem_toArray]); (repeat (first | simp only [List.getElem_cons_succ] | simp only [List.getElem_cons_zero])); (repeat (first | simp only [List.set_cons_succ] | simp only [List.set_cons_zero]))
  refine wpAnyH_take (i := 4) (v := ?_) rfl (by kernel_rfl) (by kernel_rfl) (by kernel_rfl) (fun _ _ _ h => h) (Or.inl ⟨by rfl, ?_⟩) hHeld ?_
  rotate_left
  · intro w hSw
    (try dsimp only at hSw)
    go_simp
    try with_reducible rfl
  (try simp only [Act.put]); (try simp only [List.setIfInBounds_toArray]); (try simp only [List.getElem_toArray]); (repeat (first | simp only [List.getElem_cons_succ] | simp only [List.getElem_cons_zero])); (repeat (first | simp only [List.set_cons_succ] | simp only [List.set_cons_zero]))
  refine wpAnyH_take (i := 5) (v := ?_) rfl (by kernel_rfl) (by kernel_rfl) (by kernel_rfl) (fun _ _ _ h => h) (Or.inl ⟨by rfl, ?_⟩) hHeld ?_
  rotate_left
  · intro w hSw
    (try dsimp only at hSw)
    go_simp
    try with_reducible rfl
  (try simp only [Act.put]); (try simp only [List.setIfInBounds_toArray]); (try simp only [List.getElem_toArray]); (repeat (first | simp only [List.getElem_cons_succ] | simp only [List.getElem_cons_zero])); (repeat (first | simp only [List.set_cons_succ] | simp only [List.set_cons_zero]))
  refine wpAnyH_take (i := 6) (v := ?_) rfl (by kernel_rfl) (by kernel_rfl) (by kernel_rfl) (fun _ _ _ h => h) (Or.inl ⟨by rfl, ?_⟩) hHeld ?_
  rotate_left
  · intro w hSw
    (try dsimp only at hSw)
    go_simp
    try with_reducible rfl
  (try simp only [Act.put]); (try simp only [List.setIfInBounds_toArray]); (try simp only [List.getElem_toArray]); (repeat (first | simp only [List.getElem_cons_succ] | simp only [List.getElem_cons_zero])); (repeat (first | simp only [List.set_cons_succ] | simp only [List.set_cons_zero]))
  refine wpAnyH_take (i := 7) (v := ?_) rfl (by kernel_rfl) (by kernel_rfl) (by kernel_rfl) (fun _ _ _ h => h) (Or.inl ⟨by rfl, ?_⟩) hHeld ?_
  rotate_left
  · intro w hSw
    (try dsimp only at hSw)
    go_simp
    try with_reducible rfl
  (try simp only [Act.put]); (try simp only [List.setIfInBounds_toArray]); (try simp only [List.getElem_toArray]); (repeat (first | simp only [List.getElem_cons_succ] | simp only [List.getElem_cons_zero])); (repeat (first | simp only [List.set_cons_succ] | simp only [List.set_cons_zero]))
  refine wpAnyH_take (i := 8) (v := ?_) rfl (by kernel_rfl) (by kernel_rfl) (by kernel_rfl) (fun _ _ _ h => h) (Or.inl ⟨by rfl, ?_⟩) hHeld ?_
  rotate_left
  · intro w hSw
    (try dsimp only at hSw)
    go_simp
    try with_reducible rfl
  (try simp only [Act.put]); (try simp only [List.setIfInBounds_toArray]); (try simp only [List.getElem_toArray]); (repeat (first | simp only [List.getElem_cons_succ] | simp only [List.getElem_cons_zero])); (repeat (first | simp only [List.set_cons_succ] | simp only [List.set_cons_zero]))
  refine wpAnyH_take (i := 9) (v := ?_) rfl (by kernel_rfl) (by kernel_rfl) (by kernel_rfl) (fun _ _ _ h => h) (Or.inl ⟨by rfl, ?_⟩) hHeld ?_
  rotate_left
  · intro w hSw
    (try dsimp only at hSw)
    go_simp
    try with_reducible rfl
  (try simp only [Act.put]); (try simp only [List.setIfInBounds_toArray]); (try simp only [List.getElem_toArray]); (repeat (first | simp only [List.getElem_cons_succ] | simp only [List.getElem_cons_zero])); (repeat (first | simp only [List.set_cons_succ] | simp only [List.set_cons_zero]))
  refine wpAnyH_take (i := 10) (v := ?_) rfl (by kernel_rfl) (by kernel_rfl) (by kernel_rfl) (fun _ _ _ h => h) (Or.inl ⟨by rfl, ?_⟩) hHeld ?_
  rotate_left
  · intro w hSw
    (try dsimp only at hSw)
    go_simp
    try with_reducible rfl
  (try simp only [Act.put]); (try simp only [List.setIfInBounds_toArray]); (try simp only [List.getElem_toArray]); (repeat (first | simp only [List.getElem_cons_succ] | simp only [List.getElem_cons_zero])); (repeat (first | simp only [List.set_cons_succ] | simp only [List.set_cons_zero]))
  refine wpAnyH_take (i := 11) (v := ?_) rfl (by kernel_rfl) (by kernel_rfl) (by kernel_rfl) (fun _ _ _ h => h) (Or.inl ⟨by rfl, ?_⟩) hHeld ?_
  rotate_left
  · intro w hSw
    (try dsimp only at hSw)
    go_simp
    try with_reducible rfl
  (try simp only [Act.put]); (try simp only [List.setIfInBounds_toArray]); (try simp only [List.getElem_toArray]); (repeat (first | simp only [List.getElem_cons_succ] | simp only [List.getElem_cons_zero])); (repeat (first | simp only [List.set_cons_succ] | simp only [List.set_cons_zero]))
  refine wpAnyH_take (i := 12) (v := ?_) rfl (by kernel_rfl) (by kernel_rfl) (by kernel_rfl) (fun _ _ _ h => h) (Or.inl ⟨by rfl, ?_⟩) hHeld ?_
  rotate_left
  · intro w hSw
    (try dsimp only at hSw)
    have y0 := cell_of hSw.2.2.1 0
    have y1 := cell_of hSw.2.2.1 1
    have y2 := cell_of hSw.2.2.1 2
    have y3 := cell_of hSw.2.2.1 3
    have y4 := cell_of hSw.2.2.1 4
    have y5 := cell_of hSw.2.2.1 5
    have y6 := cell_of hSw.2.2.1 6
    have y7 := cell_of hSw.2.2.1 7
    have y8 := cell_of hSw.2.2.1 8
    have y9 := cell_of hSw.2.2.1 9
    have y10 := cell_of hSw.2.2.1 10
    go_simp
    try with_reducible rfl
  (try simp only [Act.put]); (try simp only [List.setIfInBounds_toArray]); (try simp only [List.getElem_toArray]); (repeat (first | simp only [List.getElem_cons_succ] | simp only [List.getElem_cons_zero])); (repeat (first | simp only [List.set_cons_succ] | simp only [List.set_cons_zero]))
  refine wpAnyH_take (i := 13) (v := ?_) rfl (by kernel_rfl) (by kernel_rfl) (by kernel_rfl) (fun _ _ _ h => h) (Or.inl ⟨by rfl, ?_⟩) hHeld ?_
  rotate_left
  · intro w hSw
    (try dsimp only at hSw)
    have y0 := cell_of hSw.2.2.2 0
    have y1 := cell_of hSw.2.2.2 1
    have y2 := cell_of hSw.2.2.2 2
    have y3 := cell_of hSw.2.2.2 3
    have y4 := cell_of hSw.2.2.2 4
    have y5 := cell_of hSw.2.2.2 5
    have y6 := cell_of hSw.2.2.2 6
    have y7 := cell_of hSw.2.2.2 7
    have y8 := cell_of hSw.2.2.2 8
    have y9 := cell_of hSw.2.2.2 9
    have y10 := cell_of hSw.2.2.2 10
    go_simp
    try with_reducible rfl
  (try simp only [Act.put]); (try simp only [List.setIfInBounds_toArray]); (try simp only [List.getElem_toArray]); (repeat (first | simp only [List.getElem_cons_succ] | simp only [List.getElem_cons_zero])); (repeat (first | simp only [List.set_cons_succ] | simp only [List.set_cons_zero]))
  refine wpAnyH_ready (rs := [14]) (by kernel_rfl) (by simp) ?_
  refine AllReadyH.cons rfl (fun KK hKK => ?_) AllReadyH.nil
  go_simp
  refine (HSO.out _ HV1.out).mono ?_
  rintro e v2 ⟨rfl, D9⟩
  have HV2 := keepH (below_chain HV1.out D9)
  have hcc := And.intro (heap_below hHeld.1 D9) (And.intro (heap_below hHeld.2.1 D9) (And.intro (heap_below hHeld.2.2.1 D9) (heap_below hHeld.2.2.2 D9)))
  clear D9
  refine hKK.out _ _ ?_ (fun hHeld => ?_)
  · exact hcc
  clear hKK KK
  (try simp only [Act.put]); (try simp only [List.setIfInBounds_toArray]); (try simp only [List.getElem_toArray]); (repeat (first | simp only [List.getElem_cons_succ] | simp only [List.getElem_cons_zero])); (repeat (first | simp only [List.set_cons_succ] | simp only [List.set_cons_zero]))
  refine wpAnyH_take (i := 15) (v := ?_) rfl (by kernel_rfl) (by kernel_rfl) (by kernel_rfl) (fun _ _ _ h => h) (Or.inl ⟨by rfl, ?_⟩) hHeld ?_
  rotate_left
  · intro w hSw
    (try dsimp only at hSw)
    go_simp
    try with_reducible rfl
  (try simp only [Act.put]); (try simp only [List.setIfInBounds_toArray]); (try simp only [List.getElem_toArray]); (repeat (first | simp only [List.getElem_cons_succ] | simp only [List.getElem_cons_zero])); (repeat (first | simp only [List.set_cons_succ] | simp only [List.set_cons_zero]))
  refine wpAnyH_take (i := 16) (v := ?_) rfl (by kernel_rfl) (by kernel_rfl) (by kernel_rfl) (fun _ _ _ h => h) (Or.inl ⟨by rfl, ?_⟩) hHeld ?_
  rotate_left
  · intro w hSw
    (try dsimp only at hSw)
    go_simp
    try with_reducible rfl
  (try simp only [Act.put]); (try simp only [List.setIfInBounds_toArray]); (try simp only [List.getElem_toArray]); (repeat (first | simp only [List.getElem_cons_succ] | simp only [List.getElem_cons_zero])); (repeat (first | simp only [List.set_cons_succ] | simp only [List.set_cons_zero]))
  refine wpAnyH_take (i := 17) (v := ?_) rfl (by kernel_rfl) (by kernel_rfl) (by kernel_rfl) (fun _ _ _ h => h) (Or.inl ⟨by rfl, ?_⟩) hHeld ?_
  rotate_left
  · intro w hSw
    (try dsimp only at hSw)
    go_simp
    try with_reducible rfl
  (try simp only [Act.put]); (try simp only [List.setIfInBounds_toArray]); (try simp only [List.getElem_toArray]); (repeat (first | simp only [List.getElem_cons_succ] | simp only [List.getElem_cons_zero])); (repeat (first | simp only [List.set_cons_succ] | simp only [List.set_cons_zero]))
  refine wpAnyH_take (i := 18) (v := ?_) rfl (by kernel_rfl) (by kernel_rfl) (by kernel_rfl) (fun _ _ _ h => h) (Or.inl ⟨by rfl, ?_⟩) hHeld ?_
  rotate_left
  · intro w hSw
    (try dsimp only at hSw)
    go_simp
    try with_reducible rfl
  (try simp only [Act.put]); (try simp only [List.setIfInBounds_toArray]); (try simp only [List.getElem_toArray]); (repeat (first | simp only [List.getElem_cons_succ] | simp only [List.getElem_cons_zero])); (repeat (first | simp only [List.set_cons_succ] | simp only [List.set_cons_zero]))
  refine wpAnyH_take (i := 19) (v := ?_) rfl (by kernel_rfl) (by kernel_rfl) (by kernel_rfl) (fun _ _ _ h => h) (Or.inl ⟨by rfl, ?_⟩) hHeld ?_
  rotate_left
  · intro w hSw
    (try dsimp only at hSw)
    go_simp
    try with_reducible rfl
  (try simp only [Act.put]); (try simp only [List.setIfInBounds_toArray]); (try simp only [List.getElem_toArray]); (repeat (first | simp only [List.getElem_cons_succ] | simp only [List.getElem_cons_zero])); (repeat (first | simp only [List.set_cons_succ] | simp only [List.set_cons_zero]))
  refine wpAnyH_take (i := 20) (v := ?_) rfl (by kernel_rfl) (by kernel_rfl) (by kernel_rfl) (fun _ _ _ h => h) (Or.inl ⟨by rfl, ?_⟩) hHeld ?_
  rotate_left
  · intro w hSw
    (try dsimp only at hSw)
    go_simp
    try with_reducible rfl
  (try simp only [Act.put]); (try simp only [List.setIfInBounds_toArray]); (try simp only [List.getElem_toArray]); (repeat (first | simp only [List.getElem_cons_succ] | simp only [List.getElem_cons_zero])); (repeat (first | simp only [List.set_cons_succ] | simp only [List.set_cons_zero]))
  refine wpAnyH_take (i := 21) (v := ?_) rfl (by kernel_rfl) (by kernel_rfl) (by kernel_rfl) (fun _ _ _ h => h) (Or.inl ⟨by rfl, ?_⟩) hHeld ?_
  rotate_left
  · intro w hSw
    (try dsimp only at hSw)
    go_simp
    try with_reducible rfl
  (try simp only [Act.put]); (try simp only [List.setIfInBounds_toArray]); (try simp only [List.getElem_toArray]); (repeat (first | simp only [List.getElem_cons_succ] | simp only [List.getElem_cons_zero])); (repeat (first | simp only [List.set_cons_succ] | simp only [List.set_cons_zero]))
  refine wpAnyH_take (i := 22) (v := ?_) rfl (by kernel_rfl) (by kernel_rfl) (by kernel_rfl) (fun _ _ _ h => h) (Or.inl ⟨by rfl, ?_⟩) hHeld ?_
  rotate_left
  · intro w hSw
    (try dsimp only at hSw)
    go_simp
    try with_reducible rfl
  (try simp only [Act.put]); (try simp only [List.setIfInBounds_toArray]); (try simp only [List.getElem_toArray]); (repeat (first | simp only [List.getElem_cons_succ] | simp only [List.getElem_cons_zero])); (repeat (first | simp only [List.set_cons_succ] | simp only [List.set_cons_zero]))
  refine wpAnyH_take (i := 23) (v := ?_) rfl (by kernel_rfl) (by kernel_rfl) (by kernel_rfl) (fun _ _ _ h => h) (Or.inl ⟨by rfl, ?_⟩) hHeld ?_
  rotate_left
  · intro w hSw
    (try dsimp only at hSw)
    have y0 := cell_of hSw.1 0
    go_simp
    try with_reducible rfl
  (try simp only [Act.put]); (try simp only [List.setIfInBounds_toArray]); (try simp only [List.getElem_toArray]); (repeat (first | simp only [List.getElem_cons_succ] | simp only [List.getElem_cons_zero])); (repeat (first | simp only [List.set_cons_succ] | simp only [List.set_cons_zero]))
  refine wpAnyH_take (i := 24) (v := ?_) rfl (by kernel_rfl) (by kernel_rfl) (by kernel_rfl) (fun _ _ _ h => h) (Or.inl ⟨by rfl, ?_⟩) hHeld ?_
  rotate_left
  · intro w hSw
    (try dsimp only at hSw)
    have y0 := cell_of hSw.2.1 0
    have y1 := cell_of hSw.2.1 1
    have y2 := cell_of hSw.2.1 2
    have y3 := cell_of hSw.2.1 3
    have y4 := cell_of hSw.2.1 4
    have y5 := cell_of hSw.2.1 5
    have y6 := cell_of hSw.2.1 6
    go_simp
    try with_reducible rfl
  (try simp only [Act.put]); (try simp only [List.setIfInBounds_toArray]); (try simp only [List.getElem_toArray]); (repeat (first | simp only [List.getElem_cons_succ] | simp only [List.getElem_cons_zero])); (repeat (first | simp only [List.set_cons_succ] | simp only [List.set_cons_zero]))
  refine wpAnyH_take (i := 26) (v := ?_) rfl (by kernel_rfl) (by kernel_rfl) (by kernel_rfl) (fun _ _ _ h => h) (Or.inl ⟨by rfl, ?_⟩) hHeld ?_
  rotate_left
  · intro w hSw
    (try dsimp only at hSw)
    go_simp
    try with_reducible rfl
  (try simp only [Act.put]); (try simp only [List.setIfInBounds_toArray]); (try simp only [List.getElem_toArray]); (repeat (first | simp only [List.getElem_cons_succ] | simp only [List.getElem_cons_zero])); (repeat (first | simp only [List.set_cons_succ] | simp only [List.set_cons_zero]))
  refine wpAnyH_take (i := 27) (v := ?_) rfl (by kernel_rfl) (by kernel_rfl) (by kernel_rfl) (fun _ _ _ h => h) (Or.inl ⟨by rfl, ?_⟩) hHeld ?_
  rotate_left
  · intro w hSw
    (try dsimp only at hSw)
    have y0 := cell_of hSw.1 0
    go_simp
    try with_reducible rfl
  (try simp only [Act.put]); (try simp only [List.setIfInBounds_toArray]); (try simp only [List.getElem_toArray]); (repeat (first | simp only [List.getElem_cons_succ] | simp only [List.getElem_cons_zero])); (repeat (first | simp only [List.set_cons_succ] | simp only [List.set_cons_zero]))
  refine wpAnyH_take (i := 28) (v := ?_) rfl (by kernel_rfl) (by kernel_rfl) (by kernel_rfl) (fun _ _ _ h => h) (Or.inl ⟨by rfl, ?_⟩) hHeld ?_
  rotate_left
  · intro w hSw
    (try dsimp only at hSw)
    have y0 := cell_of hSw.2.1 0
    have y1 := cell_of hSw.2.1 1
    have y2 := cell_of hSw.2.1 2
    have y3 := cell_of hSw.2.1 3
    have y4 := cell_of hSw.2.1 4
    have y5 := cell_of hSw.2.1 5
    have y6 := cell_of hSw.2.1 6
    go_simp
    try with_reducible rfl
  (try simp only [Act.put]); (try simp only [List.setIfInBounds_toArray]); (try simp only [List.getElem_toArray]); (repeat (first | simp only [List.getElem_cons_succ] | simp only [List.getElem_cons_zero])); (repeat (first | simp only [List.set_cons_succ] | simp only [List.set_cons_zero]))
  refine wpAnyH_ready (rs := [25]) (by kernel_rfl) (by simp) ?_
  refine AllReadyH.cons rfl (fun KK hKK => ?_) AllReadyH.nil
  go_simp
  refine (HA1.out _ (below_chain HB8.out HV2.out)).mono ?_
  rintro e v3 ⟨rfl, D9⟩
  have HV3 := keepH (below_chain HV2.out D9)
  have hcc := And.intro (heap_below hHeld.1 D9) (And.intro (heap_below hHeld.2.1 D9) (And.intro (heap_below hHeld.2.2.1 D9) (heap_below hHeld.2.2.2 D9)))
  clear D9
  refine hKK.out _ _ ?_ (fun hHeld => ?_)
  · exact hcc
  clear hKK KK
  (try simp only [Act.put]); (try simp only [List.setIfInBounds_toArray]); (try simp only [List.getElem_toArray]); (repeat (first | simp only [List.getElem_cons_succ] | simp only [List.getElem_cons_zero])); (repeat (first | simp only [List.set_cons_succ] | simp only [List.set_cons_zero]))
  refine wpAnyH_ready (rs := [29]) (by kernel_rfl) (by simp) ?_
  refine AllReadyH.cons rfl (fun KK hKK => ?_) AllReadyH.nil
  go_simp
  refine (HA2.out _ (below_chain HB8.out HV3.out)).mono ?_
  rintro e v4 ⟨rfl, D9⟩
  have HV4 := keepH (below_chain HV3.out D9)
  have hcc := And.intro (heap_below hHeld.1 D9) (And.intro (heap_below hHeld.2.1 D9) (And.intro (heap_below hHeld.2.2.1 D9) (heap_below hHeld.2.2.2 D9)))
  clear D9
  refine hKK.out _ _ ?_ (fun hHeld => ?_)
  · exact hcc
  clear hKK KK
  (try simp only [Act.put]); (try simp only [List.setIfInBounds_toArray]); (try simp only [List.getElem_toArray]); (repeat (first | simp only [List.getElem_cons_succ] | simp only [List.getElem_cons_zero])); (repeat (first | simp only [List.set_cons_succ] | simp only [List.set_cons_zero]))
  refine wpAnyH_take (i := 30) (v := ?_) rfl (by kernel_rfl) (by kernel_rfl) (by kernel_rfl) (fun _ _ _ h => h) (Or.inl ⟨by rfl, ?_⟩) hHeld ?_
  rotate_left
  · intro w hSw
    (try dsimp only at hSw)
    go_simp
    try with_reducible rfl
  (try simp only [Act.put]); (try simp only [List.setIfInBounds_toArray]); (try simp only [List.getElem_toArray]); (repeat (first | simp only [List.getElem_cons_succ] | simp only [List.getElem_cons_zero])); (repeat (first | simp only [List.set_cons_succ] | simp only [List.set_cons_zero]))
  refine wpAnyH_take (i := 31) (v := ?_) rfl (by kernel_rfl) (by kernel_rfl) (by kernel_rfl) (fun _ _ _ h => h) (Or.inl ⟨by rfl, ?_⟩) hHeld ?_
  rotate_left
  · intro w hSw
    (try dsimp only at hSw)
    go_simp
    try with_reducible rfl
  (try simp only [Act.put]); (try simp only [List.setIfInBounds_toArray]); (try simp only [List.getElem_toArray]); (repeat (first | simp only [List.getElem_cons_succ] | simp only [List.getElem_cons_zero])); (repeat (first | simp only [List.set_cons_succ] | simp only [List.set_cons_zero]))
  refine wpAnyH_take (i := 32) (v := ?_) rfl (by kernel_rfl) (by kernel_rfl) (by kernel_rfl) (fun _ _ _ h => h) (Or.inl ⟨by rfl, ?_⟩) hHeld ?_
  rotate_left
  · intro w hSw
    (try dsimp only at hSw)
    go_simp
    try with_reducible rfl
  (try simp only [Act.put]); (try simp only [List.setIfInBounds_toArray]); (try simp only [List.getElem_toArray]); (repeat (first | simp only [List.getElem_cons_succ] | simp only [List.getElem_cons_zero])); (repeat (first | simp only [List.set_cons_succ] | simp only [List.set_cons_zero]))
  refine wpAnyH_done (by kernel_rfl) ?_ _
  go_simp
  clear hHeld
  go_wp2_with fail
  go_ret
  exact ⟨by simp, below_chain HB8.out HV4.out⟩
end Go.Proofs.YtmmaniolaljjlaaGreatDoor
