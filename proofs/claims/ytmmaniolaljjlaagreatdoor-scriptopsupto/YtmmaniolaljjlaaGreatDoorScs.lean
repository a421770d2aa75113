/- ParseOp, by the program. (mkScs.py) -/
import Derived.Test.YtmmaniolaljjlaaGreatDoorScr
namespace Go.Proofs.YtmmaniolaljjlaaGreatDoor
open Go.RowKit Go.Shelf
set_option linter.unusedVariables false

def PoQ (W : World) (t : List UInt8) (e : Ending) (W' : World) : Prop := ∃ ok o kp kc, e = .returned (.tuple #[.agg (opV o kp kc), .int .i64 (if ok = true then 0 else 52)]) ∧ PQ t ok o ∧ KU W.heap.size kp o.keys W' ∧ (ok = false → o = zeroO) ∧ Below W.heap.size W W'
theorem KU.on {B : Nat} {lp : Option Addr} {us : List Nat} {X Y : World} (h : KU B lp us X) (hb : Below X.heap.size X Y) : KU B lp us Y := by
  rcases h with h | ⟨g, h1, h2, h3, h4⟩
  · exact .inl h
  · exact .inr ⟨g, h1, h2, Nat.lt_of_lt_of_le h3 hb.size, fun i x hx => cell_below (h4 i x hx) hb⟩
set_option maxRecDepth 100000 in
set_option maxHeartbeats 4000000 in
theorem parseOp_any (t : List UInt8) (ht : t.length ≤ 5000000) (W : World) (hW : Wd W) (T : Tb W) :
    Calls Tryz.prog 9 #[.string (mkS t)] W (PoQ W t) := by
  obtain ⟨w1, hw1⟩ : ∃ w1, w1 = W.alloc (.cells (opR 0 0 0 0 0 false 0 0 (.slice none 0 0) 0 0) 28) := ⟨_, rfl⟩
  obtain ⟨R, hR⟩ : ∃ R, R = W.heap.size := ⟨_, rfl⟩
  have B1 : Below W.heap.size W w1 := by rw [hw1]; exact below_alloc _ _
  have X1 : w1.heap[R]? = some (.cells (opR 0 0 0 0 0 false 0 0 (.slice none 0 0) 0 0) 28 (0, 0)) := by rw [hw1, hR]; exact heap_alloc_new _ _
  have HPA := keepH (fun b w (hV : IsVoc w b) (hb : Below W.heap.size W w) => parse_any b t ht w hV (hW.on hb) (T.on hb))
  have HW1 := keepH hw1
  have HR := keepH hR
  have HB1 := keepH B1
  have HX1 := keepH X1
  obtain ⟨s, hs⟩ : ∃ s, s = mkS t := ⟨_, rfl⟩
  rw [← hs] at HPA ⊢
  clear hw1 hR B1 X1 hW T hs ht
  go_enter Tryz.func9, Tryz.ntmps9
  go_upto_region 1 with fail
  rw [show W.alloc (.cells #[.int .u8 0, .int .u64 0, .int .u64 0, .int .u64 0, .int .u64 0, .bool false, .int .i64 0, .int .i64 0, .slice none 0 0, .int .u64 0, .int .u64 0] 28) = w1 from HW1.out.symm, ← HR.out]
  go_wp2_with fail
  refine (voc_new w1).mono ?_
  rintro e w2 ⟨rfl, hV, B2⟩
  have HX2 := keepH (heap_below HX1.out B2)
  have HB2 := keepH (below_chain HB1.out B2)
  have HQ := keepH (HPA.out w1.heap.size w2 hV HB2.out)
  have HRL : Hid (R < w2.heap.size) := keepH (Array.getElem?_eq_some_iff.1 HX2.out).1
  obtain ⟨b, hbb⟩ : ∃ b, b = w1.heap.size := ⟨_, rfl⟩
  rw [← hbb] at HQ ⊢
  clear hV B2 hbb
  go_wp2_with fail
  refine HQ.out.mono ?_
  rintro e w3 ⟨ok, o, kp, kc, rfl, hpq, hku, hzo, B3⟩
  have HX3 := keepH (heap_below HX2.out B3)
  have HB3 := keepH (below_chain HB2.out B3)
  have HPQ := keepH hpq
  have HKU := keepH hku
  have HZO := keepH hzo
  clear hpq hku hzo B3
  obtain ⟨k, key, val, old, hnd, set, rt, ri, keys, lo, hi⟩ := o
  simp only [opV]
  obtain ⟨n, hn⟩ : ∃ n, n = keys.length := ⟨_, rfl⟩
  rw [← hn]
  have HN := keepH hn
  obtain ⟨w4, hw4⟩ : ∃ w4, w4 = w3.alloc (.cells (opR k key val old hnd set rt ri (.slice kp n kc) lo hi) 28) := ⟨_, rfl⟩
  obtain ⟨Q, hQ⟩ : ∃ Q, Q = w3.heap.size := ⟨_, rfl⟩
  have B4 : Below w3.heap.size w3 w4 := by rw [hw4]; exact below_alloc _ _
  have X4 : w4.heap[Q]? = some (.cells (opR k key val old hnd set rt ri (.slice kp n kc) lo hi) 28 (0, 0)) := by rw [hw4, hQ]; exact heap_alloc_new _ _
  have HX4 := keepH (heap_below HX3.out B4)
  have HB4 := keepH (below_chain HB3.out B4)
  have HK4 := keepH (HKU.out.on B4)
  have HQ4 := keepH X4
  have HW4 := keepH hw4
  have HQQ := keepH hQ
  have HLR : Hid (W.heap.size ≤ R) := keepH (by rw [HR.out]; exact Nat.le_refl _)
  clear hn hw4 hQ B4 X4
  go_upto_region 2 with fail
  rw [← HW4.out, ← HQQ.out]
  cases ok with
  | false =>
    have hz := HZO.out rfl
    have HPZ := keepH HPQ.out
    rw [hz] at HPZ
    clear hz
    go_wp2_with (first | (refine wpList_store_row rfl 28 _ _ rfl R (opR 0 0 0 0 0 false 0 0 (.slice none 0 0) 0 0) rfl rfl 28 (opR 0 0 0 0 0 false 0 0 (.slice none 0 0) 0 0) HX4.out (by kernel_rfl) rfl (by simp [Value.oneCell']) ?_) | fail)
    have hrow := setRow_heap _ R _ (opR 0 0 0 0 0 false 0 0 (.slice none 0 0) 0 0) 28 (0, 0) HX4.out
    have e0 := cell_of hrow 0
    have e1 := cell_of hrow 1
    have e2 := cell_of hrow 2
    have e3 := cell_of hrow 3
    have e4 := cell_of hrow 4
    have e5 := cell_of hrow 5
    have e6 := cell_of hrow 6
    have e7 := cell_of hrow 7
    have e8 := cell_of hrow 8
    have e9 := cell_of hrow 9
    have e10 := cell_of hrow 10
    simp at e0 e1 e2 e3 e4 e5 e6 e7 e8 e9 e10
    refine bodyPost_ret (v := .tuple #[.agg (opR 0 0 0 0 0 false 0 0 (.slice none 0 0) 0 0), .int .i64 52]) (by simp [results, Tryz.results9, go_sem, e0, e1, e2, e3, e4, e5, e6, e7, e8, e9, e10]) rfl ?_
    exact ⟨false, zeroO, none, 0, rfl, HPZ.out, .inl rfl, fun _ => rfl, below_setRow HB4.out HLR.out _⟩
  | true =>
    have d0 : w4.cell? ⟨Q, 0, none⟩ = _ := cell_of HQ4.out 0
    have d1 : w4.cell? ⟨Q, 1, none⟩ = _ := cell_of HQ4.out 1
    have d2 : w4.cell? ⟨Q, 2, none⟩ = _ := cell_of HQ4.out 2
    have d3 : w4.cell? ⟨Q, 3, none⟩ = _ := cell_of HQ4.out 3
    have d4 : w4.cell? ⟨Q, 4, none⟩ = _ := cell_of HQ4.out 4
    have d5 : w4.cell? ⟨Q, 5, none⟩ = _ := cell_of HQ4.out 5
    have d6 : w4.cell? ⟨Q, 6, none⟩ = _ := cell_of HQ4.out 6
    have d7 : w4.cell? ⟨Q, 7, none⟩ = _ := cell_of HQ4.out 7
    have d8 : w4.cell? ⟨Q, 8, none⟩ = _ := cell_of HQ4.out 8
    have d9 : w4.cell? ⟨Q, 9, none⟩ = _ := cell_of HQ4.out 9
    have d10 : w4.cell? ⟨Q, 10, none⟩ = _ := cell_of HQ4.out 10
    go_wp2_with (first | (refine wpList_store_row rfl 28 _ _ rfl R (opR k key val old hnd set rt ri (.slice kp n kc) lo hi) rfl rfl 28 (opR 0 0 0 0 0 false 0 0 (.slice none 0 0) 0 0) HX4.out (by kernel_rfl) rfl (by simp [Value.oneCell']) ?_) | fail)
    have hrow := setRow_heap _ R _ (opR k key val old hnd set rt ri (.slice kp n kc) lo hi) 28 (0, 0) HX4.out
    have e0 := cell_of hrow 0
    have e1 := cell_of hrow 1
    have e2 := cell_of hrow 2
    have e3 := cell_of hrow 3
    have e4 := cell_of hrow 4
    have e5 := cell_of hrow 5
    have e6 := cell_of hrow 6
    have e7 := cell_of hrow 7
    have e8 := cell_of hrow 8
    have e9 := cell_of hrow 9
    have e10 := cell_of hrow 10
    simp at e0 e1 e2 e3 e4 e5 e6 e7 e8 e9 e10
    refine bodyPost_ret (v := .tuple #[.agg (opR k key val old hnd set rt ri (.slice kp n kc) lo hi), .int .i64 0]) (by simp [results, Tryz.results9, go_sem, e0, e1, e2, e3, e4, e5, e6, e7, e8, e9, e10]) rfl ?_
    exact ⟨true, ⟨k, key, val, old, hnd, set, rt, ri, keys, lo, hi⟩, kp, kc, by rw [HN.out]; rfl, HPQ.out, (HK4.out.row HRL.out _).mono HB2.out.size, fun e => by simp at e, below_setRow HB4.out HLR.out _⟩
end Go.Proofs.YtmmaniolaljjlaaGreatDoor
