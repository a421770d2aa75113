/- ParseOp, by the program. (mkScs.py) -/
import Derived.Test.YtmmaniolaljjlaaGreatDoorScr
import Derived.Test.YtmmaniolaljjlaaGreatDoorG17Scx
import Derived.Test.YtmmaniolaljjlaaGreatDoorG18Set
import Derived.Test.YtmmaniolaljjlaaGreatDoorG19Scq
import Derived.Deep.RegionHeld
namespace Go.Proofs.YtmmaniolaljjlaaGreatDoor
open Go.RowKit Go.Shelf
set_option linter.unusedVariables false

def PoQ (W : World) (t : List UInt8) (e : Ending) (W' : World) : Prop := ∃ ok o kp kc, e = .returned (.tuple #[.agg (opV o kp kc), .int .i64 (if ok = true then 0 else 52)]) ∧ PQ t ok o ∧ KU W.heap.size kp o.keys W' ∧ (ok = false → o = zeroO) ∧ Below W.heap.size W W'
theorem KU.on {B : Nat} {lp : Option Addr} {us : List Nat} {X Y : World} (h : KU B lp us X) (hb : Below X.heap.size X Y) : KU B lp us Y := by
  rcases h with h | ⟨g, h1, h2, h3, h4⟩
  · exact .inl h
  · exact .inr ⟨g, h1, h2, Nat.lt_of_lt_of_le h3 hb.size, fun i x hx => cell_below (h4 i x hx) hb⟩
set_option maxRecDepth 100000 in
set_option maxHeartbeats 4000000 in
theorem parseOp_any (t : List UInt8) (ht : t.length ≤ 5000000) (W : World) (hW : Wd W) (T : Tb W) :
    Calls Tryz.prog 9 #[.string (mkS t)] W (PoQ W t) := by
  obtain ⟨w1, hw1⟩ : ∃ w1, w1 = W.alloc (.cells (opR 0 0 0 0 0 false 0 0 (.slice none 0 0) 0 0) 28) := ⟨_, rfl⟩
  obtain ⟨R, hR⟩ : ∃ R, R = W.heap.size := ⟨_, rfl⟩
  have B1 : Below W.heap.size W w1 := by rw [hw1]; exact below_alloc _ _
  have X1 : w1.heap[R]? = some (.cells (opR 0 0 0 0 0 false 0 0 (.slice none 0 0) 0 0) 28 (0, 0)) := by rw [hw1, hR]; exact heap_alloc_new _ _
  have HPA := keepH (fun b w (hV : IsVoc w b) (hb : Below W.heap.size W w) => parse_any b t ht w hV (hW.on hb) (T.on hb))
  have HW1 := keepH hw1
  have HR := keepH hR
  have HB1 := keepH B1
  have HX1 := keepH X1
  obtain ⟨s, hs⟩ : ∃ s, s = mkS t := ⟨_, rfl⟩
  rw [← hs] at HPA ⊢
  clear hw1 hR B1 X1 hW T hs ht
  go_enter Tryz.func9, Tryz.ntmps9
  go_upto_region 1 with fail
  rw [show W.alloc (.cells #[.int .u8 0, .int .u64 0, .int .u64 0, .int .u64 0, .int .u64 0, .bool false, .int .i64 0, .int .i64 0, .slice none 0 0, .int .u64 0, .int .u64 0] 28) = w1 from HW1.out.symm, ← HR.out]
  go_wp2_with fail
  refine (voc_new w1).mono ?_
  rintro e w2 ⟨rfl, hV, B2⟩
  have HX2 := keepH (heap_below HX1.out B2)
  have HB2 := keepH (below_chain HB1.out B2)
  have HQ := keepH (HPA.out w1.heap.size w2 hV HB2.out)
  have HRL : Hid (R < w2.heap.size) := keepH (Array.getElem?_eq_some_iff.1 HX2.out).1
  obtain ⟨b, hbb⟩ : ∃ b, b = w1.heap.size := ⟨_, rfl⟩
  rw [← hbb] at HQ ⊢
  clear hV B2 hbb
  go_wp2_with fail
  refine HQ.out.mono ?_
  rintro e w3 ⟨ok, o, kp, kc, rfl, hpq, hku, hzo, B3⟩
  have HX3 := keepH (heap_below HX2.out B3)
  have HB3 := keepH (below_chain HB2.out B3)
  have HPQ := keepH hpq
  have HKU := keepH hku
  have HZO := keepH hzo
  clear hpq hku hzo B3
  obtain ⟨k, key, val, old, hnd, set, rt, ri, keys, lo, hi⟩ := o
  simp only [opV]
  obtain ⟨n, hn⟩ : ∃ n, n = keys.length := ⟨_, rfl⟩
  rw [← hn]
  have HN := keepH hn
  obtain ⟨w4, hw4⟩ : ∃ w4, w4 = w3.alloc (.cells (opR k key val old hnd set rt ri (.slice kp n kc) lo hi) 28) := ⟨_, rfl⟩
  obtain ⟨Q, hQ⟩ : ∃ Q, Q = w3.heap.size := ⟨_, rfl⟩
  have B4 : Below w3.heap.size w3 w4 := by rw [hw4]; exact below_alloc _ _
  have X4 : w4.heap[Q]? = some (.cells (opR k key val old hnd set rt ri (.slice kp n kc) lo hi) 28 (0, 0)) := by rw [hw4, hQ]; exact heap_alloc_new _ _
  have HX4 := keepH (heap_below HX3.out B4)
  have HB4 := keepH (below_chain HB3.out B4)
  have HK4 := keepH (HKU.out.on B4)
  have HQ4 := keepH X4
  have HW4 := keepH hw4
  have HQQ := keepH hQ
  have HLR : Hid (W.heap.size ≤ R) := keepH (by rw [HR.out]; exact Nat.le_refl _)
  clear hn hw4 hQ B4 X4
  go_upto_region 2 with fail
  rw [← HW4.out, ← HQQ.out]
  cases ok with
  | false =>
    have hz := HZO.out rfl
    have HPZ := keepH HPQ.out
    rw [hz] at HPZ
    clear hz
    go_wp2_with (first | (refine wpList_store_row rfl 28 _ _ rfl R (opR 0 0 0 0 0 false 0 0 (.slice none 0 0) 0 0) rfl rfl 28 (opR 0 0 0 0 0 false 0 0 (.slice none 0 0) 0 0) HX4.out (by kernel_rfl) rfl (by simp [Value.oneCell']) ?_) | fail)
    have hrow := setRow_heap _ R _ (opR 0 0 0 0 0 false 0 0 (.slice none 0 0) 0 0) 28 (0, 0) HX4.out
    have e0 := cell_of hrow 0
    have e1 := cell_of hrow 1
    have e2 := cell_of hrow 2
    have e3 := cell_of hrow 3
    have e4 := cell_of hrow 4
    have e5 := cell_of hrow 5
    have e6 := cell_of hrow 6
    have e7 := cell_of hrow 7
    have e8 := cell_of hrow 8
    have e9 := cell_of hrow 9
    have e10 := cell_of hrow 10
    simp at e0 e1 e2 e3 e4 e5 e6 e7 e8 e9 e10
    refine bodyPost_ret (v := .tuple #[.agg (opR 0 0 0 0 0 false 0 0 (.slice none 0 0) 0 0), .int .i64 52]) (by simp [results, Tryz.results9, go_sem, e0, e1, e2, e3, e4, e5, e6, e7, e8, e9, e10]) rfl ?_
    exact ⟨false, zeroO, none, 0, rfl, HPZ.out, .inl rfl, fun _ => rfl, below_setRow HB4.out HLR.out _⟩
  | true =>
    have d0 : w4.cell? ⟨Q, 0, none⟩ = _ := cell_of HQ4.out 0
    have d1 : w4.cell? ⟨Q, 1, none⟩ = _ := cell_of HQ4.out 1
    have d2 : w4.cell? ⟨Q, 2, none⟩ = _ := cell_of HQ4.out 2
    have d3 : w4.cell? ⟨Q, 3, none⟩ = _ := cell_of HQ4.out 3
    have d4 : w4.cell? ⟨Q, 4, none⟩ = _ := cell_of HQ4.out 4
    have d5 : w4.cell? ⟨Q, 5, none⟩ = _ := cell_of HQ4.out 5
    have d6 : w4.cell? ⟨Q, 6, none⟩ = _ := cell_of HQ4.out 6
    have d7 : w4.cell? ⟨Q, 7, none⟩ = _ := cell_of HQ4.out 7
    have d8 : w4.cell? ⟨Q, 8, none⟩ = _ := cell_of HQ4.out 8
    have d9 : w4.cell? ⟨Q, 9, none⟩ = _ := cell_of HQ4.out 9
    have d10 : w4.cell? ⟨Q, 10, none⟩ = _ := cell_of HQ4.out 10
    go_wp2_with (first | (refine wpList_store_row rfl 28 _ _ rfl R (opR k key val old hnd set rt ri (.slice kp n kc) lo hi) rfl rfl 28 (opR 0 0 0 0 0 false 0 0 (.slice none 0 0) 0 0) HX4.out (by kernel_rfl) rfl (by simp [Value.oneCell']) ?_) | fail)
    have hrow := setRow_heap _ R _ (opR k key val old hnd set rt ri (.slice kp n kc) lo hi) 28 (0, 0) HX4.out
    have e0 := cell_of hrow 0
    have e1 := cell_of hrow 1
    have e2 := cell_of hrow 2
    have e3 := cell_of hrow 3
    have e4 := cell_of hrow 4
    have e5 := cell_of hrow 5
    have e6 := cell_of hrow 6
    have e7 := cell_of hrow 7
    have e8 := cell_of hrow 8
    have e9 := cell_of hrow 9
    have e10 := cell_of hrow 10
    simp at e0 e1 e2 e3 e4 e5 e6 e7 e8 e9 e10
    refine bodyPost_ret (v := .tuple #[.agg (opR k key val old hnd set rt ri (.slice kp n kc) lo hi), .int .i64 0]) (by simp [results, Tryz.results9, go_sem, e0, e1, e2, e3, e4, e5, e6, e7, e8, e9, e10]) rfl ?_
    exact ⟨true, ⟨k, key, val, old, hnd, set, rt, ri, keys, lo, hi⟩, kp, kc, by rw [HN.out]; rfl, HPQ.out, (HK4.out.row HRL.out _).mono HB2.out.size, fun e => by simp at e, below_setRow HB4.out HLR.out _⟩
end Go.Proofs.YtmmaniolaljjlaaGreatDoor
/- What must be whatever is asked of a script's lines. -/
namespace Go.Proofs.YtmmaniolaljjlaaGreatDoor
open Go.RowKit Go.Shelf
set_option linter.unusedVariables false

theorem u_small (n : Nat) (h : n < 1000) : isU n := by unfold isU; omega
theorem i_small (n : Int) (h : 0 ≤ n ∧ n < 1000) : isI n := ⟨by omega, by omega⟩
def relO : Opx := ⟨6, 0, 0, 0, 0, true, 0, 2, [], 0, 0⟩
theorem rel_right : rightO relO := ⟨⟨by decide, u_small _ (by decide), u_small _ (by decide), u_small _ (by decide), u_small _ (by decide), i_small _ (by decide), i_small _ (by decide), fun u hu => by simp [relO] at hu, u_small _ (by decide), u_small _ (by decide)⟩, by decide⟩
theorem rel_text : [114, 101, 108, 101, 97, 115, 101, 32, 64, 48, 46, 50] = textO relO := by decide +kernel
theorem put_text : opT 2 7 1 0 0 false 0 0 [] 0 0 = [112, 117, 116, 32, 55, 32, 49] := by decide +kernel
theorem put_fault : faultN 2 7 1 0 0 false 0 0 none 0 0 0 0 = 0 := by decide +kernel
theorem rel_ref (w : World) : (binOp .eql 25 (refV true 0 2) (refV true 0 2)).run Tryz.prog w = .ok (.bool true) w := by
  have h := ref_eql true 0 2 true 0 2 (i_small _ (by decide)) (i_small _ (by decide)) (i_small _ (by decide)) (i_small _ (by decide)) w
  simp only [binOp, go_sem]
  simp [h, Result.andThen]
set_option maxRecDepth 100000 in
set_option maxHeartbeats 4000000 in
theorem sLive_any (W : World) (hW : Wd W) (T : Tb W) : Calls Tryz.prog 11 #[] W fun e W' => e = .returned (.bool true) ∧ Below W.heap.size W W' := by
  have HP := keepH (printOp_any 2 7 1 0 0 false 0 0 none 0 0 0 [] (by decide) (u_small _ (by decide)) (u_small _ (by decide)) (u_small _ (by decide)) (u_small _ (by decide)) (u_small _ (by decide)) (u_small _ (by decide)) (i_small _ (by decide)) (i_small _ (by decide)) (fun u hu => by simp at hu) (by simp) W hW T (.inl rfl))
  have HQ := keepH (fun w (hb : Below W.heap.size W w) => parseOp_any [114, 101, 108, 101, 97, 115, 101, 32, 64, 48, 46, 50] (by decide) w (hW.on hb) (T.on hb))
  have hrr := rel_ref
  have hss : ((⟨#[112, 117, 116, 32, 55, 32, 49]⟩ : ByteArray).toList == (⟨#[112, 117, 116, 32, 55, 32, 49]⟩ : ByteArray).toList) = true := by simp
  clear hW T
  go_enter Tryz.func11, Tryz.ntmps11
  go_wp2_with fail
  refine HP.out.mono ?_
  rintro e w1 ⟨E, hE, rfl, B1⟩
  have hE0 : E = 0 := hE.trans put_fault
  subst hE0
  rw [if_pos rfl, put_text]
  have HB1 := keepH B1
  have HQ1 := keepH (HQ.out w1 B1)
  clear hE B1
  go_wp2_with fail
  refine HQ1.out.mono ?_
  rintro e w2 ⟨ok, o, kp, kc, rfl, hpq, hku, hzo, B2⟩
  obtain ⟨rfl, rfl⟩ := hpq.2 relO rel_right rel_text
  have HB2 := keepH (below_chain HB1.out B2)
  clear hpq hku hzo B2
  simp only [opV, relO]
  obtain ⟨w4, hw4⟩ : ∃ w4, w4 = w2.alloc (.cells (opR 6 0 0 0 0 true 0 2 (.slice kp 0 kc) 0 0) 28) := ⟨_, rfl⟩
  obtain ⟨Q, hQ⟩ : ∃ Q, Q = w2.heap.size := ⟨_, rfl⟩
  have B4 : Below w2.heap.size w2 w4 := by rw [hw4]; exact below_alloc _ _
  have X4 : w4.heap[Q]? = some (.cells (opR 6 0 0 0 0 true 0 2 (.slice kp 0 kc) 0 0) 28 (0, 0)) := by rw [hw4, hQ]; exact heap_alloc_new _ _
  have HB4 := keepH (below_chain HB2.out B4)
  have HW4 := keepH hw4
  have HQQ := keepH hQ
  have d0 : w4.cell? ⟨Q, 0, none⟩ = _ := cell_of X4 0
  have d5 : w4.cell? ⟨Q, 5, none⟩ = _ := cell_of X4 5
  have d6 : w4.cell? ⟨Q, 6, none⟩ = _ := cell_of X4 6
  have d7 : w4.cell? ⟨Q, 7, none⟩ = _ := cell_of X4 7
  clear hw4 hQ B4 X4
  go_upto_region 3 with fail
  rw [show w2.alloc (.cells #[.int .u8 6, .int .u64 0, .int .u64 0, .int .u64 0, .int .u64 0, .bool true, .int .i64 0, .int .i64 2, .slice kp 0 kc, .int .u64 0, .int .u64 0] 28) = w4 from HW4.out.symm, ← HQQ.out]
  go_wp2_with fail
  go_ret
  exact ⟨by simp, HB4.out⟩
end Go.Proofs.YtmmaniolaljjlaaGreatDoor
/- The law ScriptRights, walked. (mkSev.py) -/
namespace Go.Proofs.YtmmaniolaljjlaaGreatDoor
open Go.RowKit Go.Shelf
set_option linter.unusedVariables false

def txS (ce sl : Int) (stp : Nat) (mu : Int) (ts : List (List Opx)) (ps : List Int) : List UInt8 := if rtS ce sl stp mu ts ps = 0 then texS ce sl stp mu ts ps else []
theorem sPrint_any (ce sl : Int) (stp : Nat) (mu : Int) (h1 : isI ce) (h2 : isI sl) (h3 : isU stp) (h4 : isI mu) (tp : Option Addr) (tc : Nat) (pp : Option Addr) (pc : Nat) (ts : List (List Opx)) (ps : List Int) (hS : SOk ts ps) (hpc : ps.length ≤ pc) (hlen : (texS ce sl stp mu ts ps).length ≤ 100000000000) (W : World) (hT : TRd W tp ts) (hP : IRd W pp ps) (hW : Wd W) (T : Tb W) :
    Calls Tryz.prog 16 #[.agg (scR ce sl stp mu (.slice tp ts.length tc) (.slice pp ps.length pc))] W fun e W' => e = .returned (.tuple #[.string (mkS (txS ce sl stp mu ts ps)), .int .i64 (rtS ce sl stp mu ts ps : Int)]) ∧ Below W.heap.size W W' := by
  by_cases hr : rtS ce sl stp mu ts ps = 0
  · rw [txS, if_pos hr, hr]
    exact sPrint_yes ce sl stp mu h1 h2 h3 h4 tp tc pp pc ts ps hS hpc hlen W hT hP hW T hr
  · rw [txS, if_neg hr]
    exact sPrint_no ce sl stp mu tp tc pp pc ts ps hS W hT hW hr
theorem dPrint_any (ce sl : Int) (stp : Nat) (mu : Int) (h1 : isI ce) (h2 : isI sl) (h3 : isU stp) (h4 : isI mu) (tp : Option Addr) (tc : Nat) (pp : Option Addr) (pc : Nat) (ts : List (List Opx)) (ps : List Int) (hS : SOk ts ps) (hpc : ps.length ≤ pc) (hlen : (texS ce sl stp mu ts ps).length ≤ 100000000000) (W : World) (hT : TRd W tp ts) (hP : IRd W pp ps) (hW : Wd W) (T : Tb W) :
    Calls Tryz.prog 17 #[.agg (scR ce sl stp mu (.slice tp ts.length tc) (.slice pp ps.length pc))] W fun e W' => e = .returned (.tuple #[.string (mkS (txS ce sl stp mu ts ps)), .int .i64 (rtS ce sl stp mu ts ps : Int)]) ∧ Below W.heap.size W W' := by
  by_cases hr : rtS ce sl stp mu ts ps = 0
  · rw [txS, if_pos hr, hr]
    exact dPrint_yes ce sl stp mu h1 h2 h3 h4 tp tc pp pc ts ps hS hpc hlen W hT hP hW T hr
  · rw [txS, if_neg hr]
    exact dPrint_no ce sl stp mu tp tc pp pc ts ps hS W hT hW hr
set_option maxRecDepth 100000 in
set_option maxHeartbeats 8000000 in
theorem rights_walk (ce sl : Int) (stp : Nat) (mu : Int) (h1 : isI ce) (h2 : isI sl) (h3 : isU stp) (h4 : isI mu) (tp : Option Addr) (tc : Nat) (pp : Option Addr) (pc : Nat) (ts : List (List Opx)) (ps : List Int) (hS : SOk ts ps) (hpc : ps.length ≤ pc) (hlen : (texS ce sl stp mu ts ps).length ≤ 100000000000) (W : World) (hT : TRd W tp ts) (hP : IRd W pp ps) (hW : Wd W) (T : Tb W) :
    Calls Tryz.prog 4 #[.agg (scR ce sl stp mu (.slice tp ts.length tc) (.slice pp ps.length pc))] W fun e W' => e = .returned (.bool true) ∧ Below W.heap.size W W' := by
  obtain ⟨w1, hw1⟩ : ∃ w1, w1 = W.alloc (.cells (scR ce sl stp mu (.slice tp ts.length tc) (.slice pp ps.length pc)) 46) := ⟨_, rfl⟩
  obtain ⟨P, hPP⟩ : ∃ P, P = W.heap.size := ⟨_, rfl⟩
  have B1 : Below W.heap.size W w1 := by rw [hw1]; exact below_alloc _ _
  have hCP := dCopy_any ce sl stp mu tp tc pp pc ts ps hS w1 (hT.on B1) (hP.on B1)
  have hP1 := fun tq td pq pd w (hpd : ps.length ≤ pd) (hb : Below W.heap.size W w) (hTq : TRd w tq ts) (hPq : IRd w pq ps) => sPrint_any ce sl stp mu h1 h2 h3 h4 tq td pq pd ts ps hS hpd hlen w hTq hPq (hW.on hb) (T.on hb)
  have hP2 := fun w (hb : Below W.heap.size W w) => dPrint_any ce sl stp mu h1 h2 h3 h4 tp tc pp pc ts ps hS hpc hlen w (hT.on hb) (hP.on hb) (hW.on hb) (T.on hb)
  have hQ1 := fun tq td pq pd w (hb : Below W.heap.size W w) (hTq : TRd w tq ts) => sRight_any ce sl stp mu tq td pq pd ts ps hS w hTq (hW.on hb)
  have hQ2 := fun w (hb : Below W.heap.size W w) => dRight_any ce sl stp mu tp tc pp pc ts ps hS w (hT.on hb)
  have hSM := fun tq td pq pd w (hb : Below W.heap.size W w) (hTq : TRd w tq ts) (hPq : IRd w pq ps) => dSame_any ce sl stp mu h1 h2 h3 h4 tq tp td tc pq pp pd pc ts ps hS w hTq (hT.on hb) hPq (hP.on hb)
  have hLV := fun w (hb : Below W.heap.size W w) => sLive_any w (hW.on hb) (T.on hb)
  obtain ⟨V, hV⟩ : ∃ V, V = rtS ce sl stp mu ts ps := ⟨_, rfl⟩
  obtain ⟨sx, hsx⟩ : ∃ s, s = mkS (txS ce sl stp mu ts ps) := ⟨_, rfl⟩
  rw [← hV, ← hsx] at hP1 hP2
  rw [← hV] at hQ1 hQ2
  have HX1 : Hid (w1.heap[P]? = some (.cells (scR ce sl stp mu (.slice tp ts.length tc) (.slice pp ps.length pc)) 46 (0, 0))) := keepH (by rw [hw1, hPP]; exact heap_alloc_new _ _)
  obtain ⟨n, hn⟩ : ∃ n, n = ts.length := ⟨_, rfl⟩
  obtain ⟨m, hm⟩ : ∃ m, m = ps.length := ⟨_, rfl⟩
  rw [← hn, ← hm] at hCP hP1 hP2 hQ1 hQ2 hSM HX1 hw1 ⊢
  have qx : (sx.toList == sx.toList) = true := by simp
  have qv : ((V : Int) == (V : Int)) = true := by simp
  have HCP := keepH hCP
  have HP1 := keepH hP1
  have HP2 := keepH hP2
  have HQ1 := keepH hQ1
  have HQ2 := keepH hQ2
  have HSM0 := keepH hSM
  have HLV0 := keepH hLV
  have HW1 := keepH hw1
  have HP := keepH hPP
  have HB1 := keepH B1
  have d0 : w1.cell? ⟨P, 0, none⟩ = _ := cell_of HX1.out 0
  have d1 : w1.cell? ⟨P, 1, none⟩ = _ := cell_of HX1.out 1
  have d2 : w1.cell? ⟨P, 2, none⟩ = _ := cell_of HX1.out 2
  have d3 : w1.cell? ⟨P, 3, none⟩ = _ := cell_of HX1.out 3
  have d4 : w1.cell? ⟨P, 4, none⟩ = _ := cell_of HX1.out 4
  have d5 : w1.cell? ⟨P, 5, none⟩ = _ := cell_of HX1.out 5
  clear hw1 hPP B1 hCP hP1 hP2 hQ1 hQ2 hSM hLV hV hsx hn hm hS hpc hlen hT hP hW T h1 h2 h3 h4
  go_enter Tryz.func4, Tryz.ntmps4
  go_upto_region 1 with fail
  rw [← HW1.out, ← HP.out]
  clear HW1 HP
  go_wp2_with fail
  refine HCP.out.mono ?_
  rintro e w2 ⟨tq, td, pq, pd, rfl, hTq, hPq, hpd, B2⟩
  obtain ⟨w3, hw3⟩ : ∃ w3, w3 = w2.alloc (.cells (scR ce sl stp mu (.slice tq n td) (.slice pq m pd)) 46) := ⟨_, rfl⟩
  obtain ⟨Q, hQ⟩ : ∃ Q, Q = w2.heap.size := ⟨_, rfl⟩
  have B3 : Below w2.heap.size w2 w3 := by rw [hw3]; exact below_alloc _ _
  have HY3 : Hid (w3.heap[Q]? = some (.cells (scR ce sl stp mu (.slice tq n td) (.slice pq m pd)) 46 (0, 0))) := keepH (by rw [hw3, hQ]; exact heap_alloc_new _ _)
  have HX3 := keepH (heap_below (heap_below HX1.out B2) B3)
  have HB3 := keepH (below_chain (below_chain HB1.out B2) B3)
  have HTQ := keepH (hTq.on B3)
  have HPQ := keepH (hPq.on B3)
  have HPD := keepH hpd
  have HC3 := keepH (HP1.out tq td pq pd w3 hpd HB3.out HTQ.out HPQ.out)
  have HW3 := keepH hw3
  have HQ := keepH hQ
  clear d0 d1 d2 d3 d4 d5 hTq hPq hpd B2 B3 hw3 hQ HCP HP1 HX1 HB1
  go_upto_region 2 with fail
  rw [← HW3.out, ← HQ.out]
  clear HW3 HQ
  have y0 : w3.cell? ⟨Q, 0, none⟩ = _ := cell_of HY3.out 0
  have y1 : w3.cell? ⟨Q, 1, none⟩ = _ := cell_of HY3.out 1
  have y2 : w3.cell? ⟨Q, 2, none⟩ = _ := cell_of HY3.out 2
  have y3 : w3.cell? ⟨Q, 3, none⟩ = _ := cell_of HY3.out 3
  have y4 : w3.cell? ⟨Q, 4, none⟩ = _ := cell_of HY3.out 4
  have y5 : w3.cell? ⟨Q, 5, none⟩ = _ := cell_of HY3.out 5
  go_wp2_with fail
  refine HC3.out.mono ?_
  rintro e w4 ⟨rfl, B4⟩
  have HY4 := keepH (heap_below HY3.out B4)
  have HX4 := keepH (heap_below HX3.out B4)
  have HB4 := keepH (below_chain HB3.out B4)
  have HTQ4 := keepH (HTQ.out.on B4)
  have HPQ4 := keepH (HPQ.out.on B4)
  have HC4 := keepH (HP2.out w4 HB4.out)
  clear y0 y1 y2 y3 y4 y5 B4 HY3 HX3 HB3 HTQ HPQ HC3 HP2
  have x0 : w4.cell? ⟨P, 0, none⟩ = _ := cell_of HX4.out 0
  have x1 : w4.cell? ⟨P, 1, none⟩ = _ := cell_of HX4.out 1
  have x2 : w4.cell? ⟨P, 2, none⟩ = _ := cell_of HX4.out 2
  have x3 : w4.cell? ⟨P, 3, none⟩ = _ := cell_of HX4.out 3
  have x4 : w4.cell? ⟨P, 4, none⟩ = _ := cell_of HX4.out 4
  have x5 : w4.cell? ⟨P, 5, none⟩ = _ := cell_of HX4.out 5
  go_wp2_with fail
  refine HC4.out.mono ?_
  rintro e w5 ⟨rfl, B5⟩
  have HS5 : Hid ((fun w => w.heap[P]? = some (.cells (scR ce sl stp mu (.slice tp n tc) (.slice pp m pc)) 46 (0, 0)) ∧ w.heap[Q]? = some (.cells (scR ce sl stp mu (.slice tq n td) (.slice pq m pd)) 46 (0, 0))) w5.drew) := keepH ⟨(heap_below HX4.out B5 :), (heap_below HY4.out B5 :)⟩
  have HB5 := keepH (below_chain HB4.out B5)
  have HTQ5 := keepH (HTQ4.out.on B5)
  have HPQ5 := keepH (HPQ4.out.on B5)
  have HLV := keepH (fun w (hb : Below w5.heap.size w5 w) => HLV0.out w (below_chain HB5.out hb))
  have HR1 := keepH (fun w (hb : Below w5.heap.size w5 w) => HQ1.out tq td pq pd w (below_chain HB5.out hb) (HTQ5.out.on hb))
  have HR2 := keepH (fun w (hb : Below w5.heap.size w5 w) => HQ2.out w (below_chain HB5.out hb))
  have HSM := keepH (fun w (hb : Below w5.heap.size w5 w) => HSM0.out tq td pq pd w (below_chain HB5.out hb) (HTQ5.out.on hb) (HPQ5.out.on hb))
  clear x0 x1 x2 x3 x4 x5 B5 HY4 HX4 HB4 HTQ4 HPQ4 HC4 HQ1 HQ2 HSM0 HLV0
  go_upto_region 4 with fail
  refine wp_region_held_drew (S := fun w => w.heap[P]? = some (.cells (scR ce sl stp mu (.slice tp n tc) (.slice pp m pc)) 46 (0, 0)) ∧ w.heap[Q]? = some (.cells (scR ce sl stp mu (.slice tq n td) (.slice pq m pd)) 46 (0, 0))) (by kernel_rfl) (HS5.out) ?_
  intro hHeld
  refine wpAnyH_ready (rs := [0]) (by kernel_rfl) (by simp) ?_
  refine AllReadyH.cons rfl (fun KK hKK => ?_) AllReadyH.nil
  go_simp
  refine (HLV.out _ (below_drewN (Below.refl _ w5) 1)).mono ?_
  rintro e v1 ⟨rfl, D9⟩
  have HV1 := keepH (below_chain (below_drewN (Below.refl _ w5) 1) D9)
  have hcc := And.intro (heap_below hHeld.1 D9) (heap_below hHeld.2 D9)
  clear D9
  refine hKK.out _ _ ?_ (fun hHeld => ?_)
  · exact hcc
  clear hKK KK
  (try simp only [Act.put]); (try simp only [List.setIfInBounds_toArray]); (try simp only [List.getElem_toArray]); (repeat (first | simp only [List.getElem_cons_succ] | simp only [List.getElem_cons_zero])); (repeat (first | simp only [List.set_cons_succ] | simp only [List.set_cons_zero]))
  refine wpAnyH_take (i := 1) (v := ?_) rfl (by kernel_rfl) (by kernel_rfl) (by kernel_rfl) (fun _ _ _ h => h) (Or.inl ⟨by rfl, ?_⟩) hHeld ?_
  rotate_left
  · intro w hSw
    (try dsimp only at hSw)
    go_simp
    try with_reducible rfl
  (try simp only [Act.put]); (try simp only [List.setIfInBounds_toArray]); (try simp only [List.getElem_toArray]); (repeat (first | simp only [List.getElem_cons_succ] | simp only [List.getElem_cons_zero])); (repeat (first | simp only [List.set_cons_succ] | simp only [List.set_cons_zero]))
  refine wpAnyH_take (i := 2) (v := ?_) rfl (by kernel_rfl) (by kernel_rfl) (by kernel_rfl) (fun _ _ _ h => h) (Or.inl ⟨by rfl, ?_⟩) hHeld ?_
  rotate_left
  · intro w hSw
    (try dsimp only at hSw)
    have y0 := cell_of hSw.2 0
    have y1 := cell_of hSw.2 1
    have y2 := cell_of hSw.2 2
    have y3 := cell_of hSw.2 3
    have y4 := cell_of hSw.2 4
    have y5 := cell_of hSw.2 5
    go_simp
    try with_reducible rfl
  (try simp only [Act.put]); (try simp only [List.setIfInBounds_toArray]); (try simp only [List.getElem_toArray]); (repeat (first | simp only [List.getElem_cons_succ] | simp only [List.getElem_cons_zero])); (repeat (first | simp only [List.set_cons_succ] | simp only [List.set_cons_zero]))
  refine wpAnyH_take (i := 4) (v := ?_) rfl (by kernel_rfl) (by kernel_rfl) (by kernel_rfl) (fun _ _ _ h => h) (Or.inl ⟨by rfl, ?_⟩) hHeld ?_
  rotate_left
  · intro w hSw
    (try dsimp only at hSw)
    have y0 := cell_of hSw.1 0
    have y1 := cell_of hSw.1 1
    have y2 := cell_of hSw.1 2
    have y3 := cell_of hSw.1 3
    have y4 := cell_of hSw.1 4
    have y5 := cell_of hSw.1 5
    go_simp
    try with_reducible rfl
  (try simp only [Act.put]); (try simp only [List.setIfInBounds_toArray]); (try simp only [List.getElem_toArray]); (repeat (first | simp only [List.getElem_cons_succ] | simp only [List.getElem_cons_zero])); (repeat (first | simp only [List.set_cons_succ] | simp only [List.set_cons_zero]))
  refine wpAnyH_ready (rs := [3]) (by kernel_rfl) (by simp) ?_
  refine AllReadyH.cons rfl (fun KK hKK => ?_) AllReadyH.nil
  go_simp
  refine (HR1.out _ HV1.out).mono ?_
  rintro e v2 ⟨rfl, D9⟩
  have HV2 := keepH (below_chain HV1.out D9)
  have hcc := And.intro (heap_below hHeld.1 D9) (heap_below hHeld.2 D9)
  clear D9
  refine hKK.out _ _ ?_ (fun hHeld => ?_)
  · exact hcc
  clear hKK KK
  (try simp only [Act.put]); (try simp only [List.setIfInBounds_toArray]); (try simp only [List.getElem_toArray]); (repeat (first | simp only [List.getElem_cons_succ] | simp only [List.getElem_cons_zero])); (repeat (first | simp only [List.set_cons_succ] | simp only [List.set_cons_zero]))
  refine wpAnyH_ready (rs := [5]) (by kernel_rfl) (by simp) ?_
  refine AllReadyH.cons rfl (fun KK hKK => ?_) AllReadyH.nil
  go_simp
  refine (HR2.out _ HV2.out).mono ?_
  rintro e v3 ⟨rfl, D9⟩
  have HV3 := keepH (below_chain HV2.out D9)
  have hcc := And.intro (heap_below hHeld.1 D9) (heap_below hHeld.2 D9)
  clear D9
  refine hKK.out _ _ ?_ (fun hHeld => ?_)
  · exact hcc
  clear hKK KK
  (try simp only [Act.put]); (try simp only [List.setIfInBounds_toArray]); (try simp only [List.getElem_toArray]); (repeat (first | simp only [List.getElem_cons_succ] | simp only [List.getElem_cons_zero])); (repeat (first | simp only [List.set_cons_succ] | simp only [List.set_cons_zero]))
  refine wpAnyH_take (i := 6) (v := ?_) rfl (by kernel_rfl) (by kernel_rfl) (by kernel_rfl) (fun _ _ _ h => h) (Or.inl ⟨by rfl, ?_⟩) hHeld ?_
  rotate_left
  · intro w hSw
    (try dsimp only at hSw)
    go_simp
    try with_reducible rfl
  (try simp only [Act.put]); (try simp only [List.setIfInBounds_toArray]); (try simp only [List.getElem_toArray]); (repeat (first | simp only [List.getElem_cons_succ] | simp only [List.getElem_cons_zero])); (repeat (first | simp only [List.set_cons_succ] | simp only [List.set_cons_zero]))
  refine wpAnyH_take (i := 7) (v := ?_) rfl (by kernel_rfl) (by kernel_rfl) (by kernel_rfl) (fun _ _ _ h => h) (Or.inl ⟨by rfl, ?_⟩) hHeld ?_
  rotate_left
  · intro w hSw
    (try dsimp only at hSw)
    go_simp
    try with_reducible rfl
  (try simp only [Act.put]); (try simp only [List.setIfInBounds_toArray]); (try simp only [List.getElem_toArray]); (repeat (first | simp only [List.getElem_cons_succ] | simp only [List.getElem_cons_zero])); (repeat (first | simp only [List.set_cons_succ] | simp only [List.set_cons_zero]))
  refine wpAnyH_take (i := 8) (v := ?_) rfl (by kernel_rfl) (by kernel_rfl) (by kernel_rfl) (fun _ _ _ h => h) (Or.inl ⟨by rfl, ?_⟩) hHeld ?_
  rotate_left
  · intro w hSw
    (try dsimp only at hSw)
    go_simp
    try with_reducible rfl
  (try simp only [Act.put]); (try simp only [List.setIfInBounds_toArray]); (try simp only [List.getElem_toArray]); (repeat (first | simp only [List.getElem_cons_succ] | simp only [List.getElem_cons_zero])); (repeat (first | simp only [List.set_cons_succ] | simp only [List.set_cons_zero]))
  refine wpAnyH_take (i := 9) (v := ?_) rfl (by kernel_rfl) (by kernel_rfl) (by kernel_rfl) (fun _ _ _ h => h) (Or.inl ⟨by rfl, ?_⟩) hHeld ?_
  rotate_left
  · intro w hSw
    (try dsimp only at hSw)
    go_simp
    try with_reducible rfl
  (try simp only [Act.put]); (try simp only [List.setIfInBounds_toArray]); (try simp only [List.getElem_toArray]); (repeat (first | simp only [List.getElem_cons_succ] | simp only [List.getElem_cons_zero])); (repeat (first | simp only [List.set_cons_succ] | simp only [List.set_cons_zero]))
  refine wpAnyH_take (i := 10) (v := ?_) rfl (by kernel_rfl) (by kernel_rfl) (by kernel_rfl) (fun _ _ _ h => h) (Or.inl ⟨by rfl, ?_⟩) hHeld ?_
  rotate_left
  · intro w hSw
    (try dsimp only at hSw)
    go_simp
    try with_reducible rfl
  (try simp only [Act.put]); (try simp only [List.setIfInBounds_toArray]); (try simp only [List.getElem_toArray]); (repeat (first | simp only [List.getElem_cons_succ] | simp only [List.getElem_cons_zero])); (repeat (first | simp only [List.set_cons_succ] | simp only [List.set_cons_zero]))
  refine wpAnyH_take (i := 11) (v := ?_) rfl (by kernel_rfl) (by kernel_rfl) (by kernel_rfl) (fun _ _ _ h => h) (Or.inl ⟨by rfl, ?_⟩) hHeld ?_
  rotate_left
  · intro w hSw
    (try dsimp only at hSw)
    go_simp
    try with_reducible rfl
  (try simp only [Act.put]); (try simp only [List.setIfInBounds_toArray]); (try simp only [List.getElem_toArray]); (repeat (first | simp only [List.getElem_cons_succ] | simp only [List.getElem_cons_zero])); (repeat (first | simp only [List.set_cons_succ] | simp only [List.set_cons_zero]))
  refine wpAnyH_take (i := 12) (v := ?_) rfl (by kernel_rfl) (by kernel_rfl) (by kernel_rfl) (fun _ _ _ h => h) (Or.inl ⟨by rfl, ?_⟩) hHeld ?_
  rotate_left
  · intro w hSw
    (try dsimp only at hSw)
    go_simp
    try with_reducible rfl
  (try simp only [Act.put]); (try simp only [List.setIfInBounds_toArray]); (try simp only [List.getElem_toArray]); (repeat (first | simp only [List.getElem_cons_succ] | simp only [List.getElem_cons_zero])); (repeat (first | simp only [List.set_cons_succ] | simp only [List.set_cons_zero]))
  refine wpAnyH_take (i := 13) (v := ?_) rfl (by kernel_rfl) (by kernel_rfl) (by kernel_rfl) (fun _ _ _ h => h) (Or.inl ⟨by rfl, ?_⟩) hHeld ?_
  rotate_left
  · intro w hSw
    (try dsimp only at hSw)
    go_simp
    try with_reducible rfl
  (try simp only [Act.put]); (try simp only [List.setIfInBounds_toArray]); (try simp only [List.getElem_toArray]); (repeat (first | simp only [List.getElem_cons_succ] | simp only [List.getElem_cons_zero])); (repeat (first | simp only [List.set_cons_succ] | simp only [List.set_cons_zero]))
  refine wpAnyH_take (i := 14) (v := ?_) rfl (by kernel_rfl) (by kernel_rfl) (by kernel_rfl) (fun _ _ _ h => h) (Or.inl ⟨by rfl, ?_⟩) hHeld ?_
  rotate_left
  · intro w hSw
    (try dsimp only at hSw)
    go_simp
    try with_reducible rfl
  (try simp only [Act.put]); (try simp only [List.setIfInBounds_toArray]); (try simp only [List.getElem_toArray]); (repeat (first | simp only [List.getElem_cons_succ] | simp only [List.getElem_cons_zero])); (repeat (first | simp only [List.set_cons_succ] | simp only [List.set_cons_zero]))
  refine wpAnyH_take (i := 15) (v := ?_) rfl (by kernel_rfl) (by kernel_rfl) (by kernel_rfl) (fun _ _ _ h => h) (Or.inl ⟨by rfl, ?_⟩) hHeld ?_
  rotate_left
  · intro w hSw
    (try dsimp only at hSw)
    go_simp
    try with_reducible rfl
  (try simp only [Act.put]); (try simp only [List.setIfInBounds_toArray]); (try simp only [List.getElem_toArray]); (repeat (first | simp only [List.getElem_cons_succ] | simp only [List.getElem_cons_zero])); (repeat (first | simp only [List.set_cons_succ] | simp only [List.set_cons_zero]))
  refine wpAnyH_take (i := 16) (v := ?_) rfl (by kernel_rfl) (by kernel_rfl) (by kernel_rfl) (fun _ _ _ h => h) (Or.inl ⟨by rfl, ?_⟩) hHeld ?_
  rotate_left
  · intro w hSw
    (try dsimp only at hSw)
    go_simp
    try with_reducible rfl
  (try simp only [Act.put]); (try simp only [List.setIfInBounds_toArray]); (try simp only [List.getElem_toArray]); (repeat (first | simp only [List.getElem_cons_succ] | simp only [List.getElem_cons_zero])); (repeat (first | simp only [List.set_cons_succ] | simp only [List.set_cons_zero]))
  refine wpAnyH_take (i := 17) (v := ?_) rfl (by kernel_rfl) (by kernel_rfl) (by kernel_rfl) (fun _ _ _ h => h) (Or.inl ⟨by rfl, ?_⟩) hHeld ?_
  rotate_left
  · intro w hSw
    (try dsimp only at hSw)
    go_simp
    try with_reducible rfl
  (try simp only [Act.put]); (try simp only [List.setIfInBounds_toArray]); (try simp only [List.getElem_toArray]); (repeat (first | simp only [List.getElem_cons_succ] | simp only [List.getElem_cons_zero])); (repeat (first | simp only [List.set_cons_succ] | simp only [List.set_cons_zero]))
  refine wpAnyH_take (i := 18) (v := ?_) rfl (by kernel_rfl) (by kernel_rfl) (by kernel_rfl) (fun _ _ _ h => h) (Or.inl ⟨by rfl, ?_⟩) hHeld ?_
  rotate_left
  · intro w hSw
    (try dsimp only at hSw)
    go_simp
    try with_reducible rfl
  (try simp only [Act.put]); (try simp only [List.setIfInBounds_toArray]); (try simp only [List.getElem_toArray]); (repeat (first | simp only [List.getElem_cons_succ] | simp only [List.getElem_cons_zero])); (repeat (first | simp only [List.set_cons_succ] | simp only [List.set_cons_zero]))
  refine wpAnyH_take (i := 19) (v := ?_) rfl (by kernel_rfl) (by kernel_rfl) (by kernel_rfl) (fun _ _ _ h => h) (Or.inl ⟨by rfl, ?_⟩) hHeld ?_
  rotate_left
  · intro w hSw
    (try dsimp only at hSw)
    have y0 := cell_of hSw.2 0
    have y1 := cell_of hSw.2 1
    have y2 := cell_of hSw.2 2
    have y3 := cell_of hSw.2 3
    have y4 := cell_of hSw.2 4
    have y5 := cell_of hSw.2 5
    go_simp
    try with_reducible rfl
  (try simp only [Act.put]); (try simp only [List.setIfInBounds_toArray]); (try simp only [List.getElem_toArray]); (repeat (first | simp only [List.getElem_cons_succ] | simp only [List.getElem_cons_zero])); (repeat (first | simp only [List.set_cons_succ] | simp only [List.set_cons_zero]))
  refine wpAnyH_take (i := 20) (v := ?_) rfl (by kernel_rfl) (by kernel_rfl) (by kernel_rfl) (fun _ _ _ h => h) (Or.inl ⟨by rfl, ?_⟩) hHeld ?_
  rotate_left
  · intro w hSw
    (try dsimp only at hSw)
    have y0 := cell_of hSw.1 0
    have y1 := cell_of hSw.1 1
    have y2 := cell_of hSw.1 2
    have y3 := cell_of hSw.1 3
    have y4 := cell_of hSw.1 4
    have y5 := cell_of hSw.1 5
    go_simp
    try with_reducible rfl
  (try simp only [Act.put]); (try simp only [List.setIfInBounds_toArray]); (try simp only [List.getElem_toArray]); (repeat (first | simp only [List.getElem_cons_succ] | simp only [List.getElem_cons_zero])); (repeat (first | simp only [List.set_cons_succ] | simp only [List.set_cons_zero]))
  refine wpAnyH_ready (rs := [21]) (by kernel_rfl) (by simp) ?_
  refine AllReadyH.cons rfl (fun KK hKK => ?_) AllReadyH.nil
  go_simp
  refine (HSM.out _ HV3.out).mono ?_
  rintro e v4 ⟨rfl, D9⟩
  have HV4 := keepH (below_chain HV3.out D9)
  have hcc := And.intro (heap_below hHeld.1 D9) (heap_below hHeld.2 D9)
  clear D9
  refine hKK.out _ _ ?_ (fun hHeld => ?_)
  · exact hcc
  clear hKK KK
  (try simp only [Act.put]); (try simp only [List.setIfInBounds_toArray]); (try simp only [List.getElem_toArray]); (repeat (first | simp only [List.getElem_cons_succ] | simp only [List.getElem_cons_zero])); (repeat (first | simp only [List.set_cons_succ] | simp only [List.set_cons_zero]))
  refine wpAnyH_take (i := 22) (v := ?_) rfl (by kernel_rfl) (by kernel_rfl) (by kernel_rfl) (fun _ _ _ h => h) (Or.inl ⟨by rfl, ?_⟩) hHeld ?_
  rotate_left
  · intro w hSw
    (try dsimp only at hSw)
    go_simp
    try with_reducible rfl
  (try simp only [Act.put]); (try simp only [List.setIfInBounds_toArray]); (try simp only [List.getElem_toArray]); (repeat (first | simp only [List.getElem_cons_succ] | simp only [List.getElem_cons_zero])); (repeat (first | simp only [List.set_cons_succ] | simp only [List.set_cons_zero]))
  refine wpAnyH_take (i := 23) (v := ?_) rfl (by kernel_rfl) (by kernel_rfl) (by kernel_rfl) (fun _ _ _ h => h) (Or.inl ⟨by rfl, ?_⟩) hHeld ?_
  rotate_left
  · intro w hSw
    (try dsimp only at hSw)
    go_simp
    try with_reducible rfl
  (try simp only [Act.put]); (try simp only [List.setIfInBounds_toArray]); (try simp only [List.getElem_toArray]); (repeat (first | simp only [List.getElem_cons_succ] | simp only [List.getElem_cons_zero])); (repeat (first | simp only [List.set_cons_succ] | simp only [List.set_cons_zero]))
  refine wpAnyH_done (by kernel_rfl) ?_ _
  go_simp
  clear hHeld
  go_wp2_with fail
  go_ret
  exact ⟨by simp, below_chain HB5.out HV4.out⟩
end Go.Proofs.YtmmaniolaljjlaaGreatDoor
