/- A script as lines, by the program. (mkSep.py) -/
import Derived.Test.YtmmaniolaljjlaaGreatDoorB12Scq
import Derived.Test.YtmmaniolaljjlaaGreatDoorB8Sco
import Derived.Test.YtmmaniolaljjlaaGreatDoorB21Sdo
import Derived.Test.YtmmaniolaljjlaaGreatDoorB15Sfg
import Derived.Deep.RegionHeld
namespace Go.Proofs.YtmmaniolaljjlaaGreatDoor
open Go.RowKit Go.Shelf
set_option linter.unusedVariables false

set_option maxRecDepth 100000 in
set_option maxHeartbeats 8000000 in
theorem sPrint_yes (ce sl : Int) (stp : Nat) (mu : Int) (h1 : isI ce) (h2 : isI sl) (h3 : isU stp) (h4 : isI mu) (tp : Option Addr) (tc : Nat) (pp : Option Addr) (pc : Nat) (ts : List (List Opx)) (ps : List Int) (hS : SOk ts ps) (hpc : ps.length ≤ pc) (hlen : (texS ce sl stp mu ts ps).length ≤ 100000000000) (W : World) (hT : TRd W tp ts) (hP : IRd W pp ps) (hW : Wd W) (T : Tb W) (hr : rtS ce sl stp mu ts ps = 0) :
    Calls Tryz.prog 16 #[.agg (scR ce sl stp mu (.slice tp ts.length tc) (.slice pp ps.length pc))] W fun e W' => e = .returned (.tuple #[.string (mkS (texS ce sl stp mu ts ps)), .int .i64 0]) ∧ Below W.heap.size W W' := by
  have hall := rt0_all hr
  obtain ⟨tx, htx⟩ : ∃ tx, tx = texS ce sl stp mu ts ps := ⟨_, rfl⟩
  rw [← htx] at hlen ⊢
  obtain ⟨w1, hw1⟩ : ∃ w1, w1 = W.alloc (.cells (scR ce sl stp mu (.slice tp ts.length tc) (.slice pp ps.length pc)) 46) := ⟨_, rfl⟩
  obtain ⟨P, hPP⟩ : ∃ P, P = W.heap.size := ⟨_, rfl⟩
  have B1 : Below W.heap.size W w1 := by rw [hw1]; exact below_alloc _ _
  have hRT := sRight_any ce sl stp mu tp tc pp pc ts ps hS w1 (hT.on B1) (hW.on B1)
  rw [hr] at hRT
  have HX1 : Hid (w1.heap[P]? = some (.cells (scR ce sl stp mu (.slice tp ts.length tc) (.slice pp ps.length pc)) 46 (0, 0))) := keepH (by rw [hw1, hPP]; exact heap_alloc_new _ _)
  obtain ⟨n, hn⟩ : ∃ n, n = ts.length := ⟨_, rfl⟩
  obtain ⟨m, hm⟩ : ∃ m, m = ps.length := ⟨_, rfl⟩
  have hn1 := hS.tl
  have hm1 := hS.pl
  rw [← hn, ← hm] at hRT HX1 hw1 ⊢
  rw [← hn] at hn1
  rw [← hm] at hm1 hpc
  obtain ⟨row, hrow⟩ : ∃ row, row = (scR ce sl stp mu (.slice tp n tc) (.slice pp m pc)) := ⟨_, rfl⟩
  have HROW := keepH hrow
  have l1 := cfT_len h1 h2 h3 h4
  have ha := fun w (hb : Below W.heap.size W w) => itoa_any ce h1.1 h1.2 w (T.on hb)
  have hbb := fun w (hb : Below W.heap.size W w) => itoa_any sl h2.1 h2.2 w (T.on hb)
  have hc := fun w (hb : Below W.heap.size W w) => dec_any stp h3 w (T.on hb)
  have hd := fun w (hb : Below W.heap.size W w) => itoa_any mu h4.1 h4.2 w (T.on hb)
  obtain ⟨sa, hsa⟩ : ∃ s, s = mkS (Lib.itoa ce) := ⟨_, rfl⟩
  obtain ⟨sb, hsb⟩ : ∃ s, s = mkS (Lib.itoa sl) := ⟨_, rfl⟩
  obtain ⟨sc, hsc⟩ : ∃ s, s = mkS (Lib.decDigits stp) := ⟨_, rfl⟩
  obtain ⟨sd, hsd⟩ : ∃ s, s = mkS (Lib.itoa mu) := ⟨_, rfl⟩
  rw [← hsa] at ha
  rw [← hsb] at hbb
  rw [← hsc] at hc
  rw [← hsd] at hd
  have hln0 : ∀ (B b G : Nat) (w : World), PB W B b P row [] w → w.heap[G]? = some (.cells #[.string ⟨#[99, 111, 110, 102, 105, 103]⟩, .string sa, .string sb, .string sc, .string sd] 9 (0, 0)) →
      Calls Tryz.prog 38 #[.slice (some ⟨G, 0, none⟩) 5 5, .pointer (some ⟨b, 0, none⟩)] w fun e w' => e = .returned (.tuple #[]) ∧ Lib.IsBuilderF 79 5 B b (Lib.byteCells (cfT ce sl stp mu ++ [10])) w' ∧ Below B w w' ∧ Lib.OthersKept 5 (some b) w w' := fun B b G w hB hG => by
    have := line_any B b G 5 [] (cfL ce sl stp mu) w hB.bld hB.hi (fun j f hj => by
      have h0 := cell_of hG j
      rw [h0, hsa, hsb, hsc, hsd]
      unfold cfL at hj
      match j with
      | 0 => simp at hj ⊢; rw [← hj]; rfl
      | 1 => simp at hj ⊢; rw [← hj]
      | 2 => simp at hj ⊢; rw [← hj]
      | 3 => simp at hj ⊢; rw [← hj]
      | 4 => simp at hj ⊢; rw [← hj]
      | j + 5 => simp at hj) (Array.getElem?_eq_some_iff.1 hG).1 (by simp [cfL]) (by simp [cfL]) (by have : (Lib.join (cfL ce sl stp mu) [32]).length ≤ 505 := l1; omega) (by simp)
    simpa [cfL, lnT, cfT] using this
  have HLN0 := keepH hln0
  have HA := keepH ha
  have HBb := keepH hbb
  have HC := keepH hc
  have HD := keepH hd
  have HTX : Hid (tx = (cfT ce sl stp mu ++ [10]) ++ (thsT ts ++ pksT ps)) := keepH htx
  have HLEN := keepH hlen
  have HRT := keepH hRT
  have HW1 := keepH hw1
  have HP := keepH hPP
  have HB1 := keepH B1
  have HN := keepH hn
  have HM := keepH hm
  have HS := keepH hS
  have HALL := keepH hall
  have HT := keepH hT
  have HIP := keepH hP
  have HWD := keepH hW
  have HTB := keepH T
  have d0 : w1.cell? ⟨P, 0, none⟩ = _ := cell_of HX1.out 0
  have d1 : w1.cell? ⟨P, 1, none⟩ = _ := cell_of HX1.out 1
  have d2 : w1.cell? ⟨P, 2, none⟩ = _ := cell_of HX1.out 2
  have d3 : w1.cell? ⟨P, 3, none⟩ = _ := cell_of HX1.out 3
  have d4 : w1.cell? ⟨P, 4, none⟩ = _ := cell_of HX1.out 4
  have d5 : w1.cell? ⟨P, 5, none⟩ = _ := cell_of HX1.out 5
  clear htx hrow hlen hw1 hPP B1 hRT hn hm l1 ha hbb hc hd hsa hsb hsc hsd hln0 hS hT hP hW T hall hr h1 h2 h3 h4
  go_enter Tryz.func16, Tryz.ntmps16
  go_upto_region 1 with fail
  rw [← HW1.out, ← HP.out]
  go_wp2_with fail
  refine HRT.out.mono ?_
  rintro e w2 ⟨rfl, B2⟩
  have HB2 := keepH (below_chain HB1.out B2)
  have HX2 := keepH (heap_below HX1.out B2)
  clear B2 d0 d1 d2 d3 d4 d5 HX1 HRT
  have d0 : w2.cell? ⟨P, 0, none⟩ = _ := cell_of HX2.out 0
  have d1 : w2.cell? ⟨P, 1, none⟩ = _ := cell_of HX2.out 1
  have d2 : w2.cell? ⟨P, 2, none⟩ = _ := cell_of HX2.out 2
  have d3 : w2.cell? ⟨P, 3, none⟩ = _ := cell_of HX2.out 3
  obtain ⟨w3, hw3⟩ : ∃ w3, w3 = w2.alloc (.cells #[.pointer none, .slice none 0 0] 79) := ⟨_, rfl⟩
  obtain ⟨b, hb⟩ : ∃ b, b = w2.heap.size := ⟨_, rfl⟩
  obtain ⟨B, hBB⟩ : ∃ B, B = w2.heap.size := ⟨_, rfl⟩
  have HB3 : Hid (PB W B b P row [] w3) := keepH (by
    have hPl := (Array.getElem?_eq_some_iff.1 HX2.out).1
    rw [hw3, hb, hBB]
    exact ⟨below_chain HB2.out (below_alloc _ _), Lib.IsBuilderF.of (Lib.fresh_isBuilder 79 5 w2), by rw [HROW.out]; exact heap_below HX2.out (below_alloc _ _), hPl, HB2.out.size, by simp⟩)
  obtain ⟨w4, hw4⟩ : ∃ w4, w4 = w3.alloc (.cells #[.int .i64 ce, .int .i64 sl, .int .u64 (stp : Int), .int .i64 mu] 42) := ⟨_, rfl⟩
  obtain ⟨Q, hQ⟩ : ∃ Q, Q = w3.heap.size := ⟨_, rfl⟩
  have HB4 : Hid (PB W B b P row [] w4.drew) := keepH (by rw [hw4]; exact (HB3.out.on (below_alloc _ _)).on (below_drewN (Below.refl _ _) 1))
  have HX4 : Hid (w4.drew.heap[Q]? = some (.cells #[.int .i64 ce, .int .i64 sl, .int .u64 (stp : Int), .int .i64 mu] 42 (0, 0))) := keepH (by rw [hw4, hQ]; exact heap_alloc_new _ _)
  have HQb : Hid (Q ≠ b) := keepH (by rw [hQ, hb, hw3]; simp)
  have HLN := keepH (fun w G => HLN0.out B b G w)
  have HW3 := keepH hw3
  have HW4 := keepH hw4
  have HQ := keepH hQ
  have HBE := keepH hb
  clear hw3 hb hBB hw4 hQ HLN0
  go_upto_region 5 with fail
  rw [← HW3.out, ← HBE.out]
  have hmf : ∀ (fn : Fn) (first cap : Array Value) (w : World), (Instr.makeFunc fn first cap).run Tryz.prog w = .ok (.func fn first cap) w := fun _ _ _ _ => rfl
  have p0 : w3.cell? ⟨P, 0, none⟩ = some (.int .i64 ce) := by have := cell_of HB3.out.box 0; rw [HROW.out] at this; exact this
  have p1 : w3.cell? ⟨P, 1, none⟩ = some (.int .i64 sl) := by have := cell_of HB3.out.box 1; rw [HROW.out] at this; exact this
  have p2 : w3.cell? ⟨P, 2, none⟩ = some (.int .u64 (stp : Int)) := by have := cell_of HB3.out.box 2; rw [HROW.out] at this; exact this
  have p3 : w3.cell? ⟨P, 3, none⟩ = some (.int .i64 mu) := by have := cell_of HB3.out.box 3; rw [HROW.out] at this; exact this
  clear d0 d1 d2 d3
  go_upto_region 7 with fail
  rw [← HW4.out, ← HQ.out]
  clear HW3 HW4 HQ p0 p1 p2 p3 hmf
  refine wp_region_held_drew (S := fun w => w.heap[Q]? = some (.cells #[.int .i64 ce, .int .i64 sl, .int .u64 (stp : Int), .int .i64 mu] 42 (0, 0))) (by kernel_rfl) (HX4.out) ?_
  intro hHeld
  refine wpAnyH_take (i := 0) (v := ?_) rfl (by kernel_rfl) (by kernel_rfl) (by kernel_rfl) (fun _ _ _ h => h) (Or.inl ⟨by rfl, ?_⟩) hHeld ?_
  rotate_left
  · intro w hSw
    (try dsimp only at hSw)
    go_simp
    try with_reducible rfl
  (try simp only [Act.put]); (try simp only [List.setIfInBounds_toArray]); (try simp only [List.getElem_toArray]); (repeat (first | simp only [List.getElem_cons_succ] | simp only [List.getElem_cons_zero])); (repeat (first | simp only [List.set_cons_succ] | simp only [List.set_cons_zero]))
  refine wpAnyH_take (i := 1) (v := ?_) rfl (by kernel_rfl) (by kernel_rfl) (by kernel_rfl) (fun _ _ _ h => h) (Or.inl ⟨by rfl, ?_⟩) hHeld ?_
  rotate_left
  · intro w hSw
    (try dsimp only at hSw)
    go_simp
    try with_reducible rfl
  (try simp only [Act.put]); (try simp only [List.setIfInBounds_toArray]); (try simp only [List.getElem_toArray]); (repeat (first | simp only [List.getElem_cons_succ] | simp only [List.getElem_cons_zero])); (repeat (first | simp only [List.set_cons_succ] | simp only [List.set_cons_zero]))
  refine wpAnyH_take (i := 2) (v := ?_) rfl (by kernel_rfl) (by kernel_rfl) (by kernel_rfl) (fun _ _ _ h => h) (Or.inl ⟨by rfl, ?_⟩) hHeld ?_
  rotate_left
  · intro w hSw
    (try dsimp only at hSw)
    have y0 := cell_of hSw 0
    go_simp
    try with_reducible rfl
  (try simp only [Act.put]); (try simp only [List.setIfInBounds_toArray]); (try simp only [List.getElem_toArray]); (repeat (first | simp only [List.getElem_cons_succ] | simp only [List.getElem_cons_zero])); (repeat (first | simp only [List.set_cons_succ] | simp only [List.set_cons_zero]))
  refine wpAnyH_take (i := 4) (v := ?_) rfl (by kernel_rfl) (by kernel_rfl) (by kernel_rfl) (fun _ _ _ h => h) (Or.inl ⟨by rfl, ?_⟩) hHeld ?_
  rotate_left
  · intro w hSw
    (try dsimp only at hSw)
    go_simp
    try with_reducible rfl
  (try simp only [Act.put]); (try simp only [List.setIfInBounds_toArray]); (try simp only [List.getElem_toArray]); (repeat (first | simp only [List.getElem_cons_succ] | simp only [List.getElem_cons_zero])); (repeat (first | simp only [List.set_cons_succ] | simp only [List.set_cons_zero]))
  refine wpAnyH_take (i := 5) (v := ?_) rfl (by kernel_rfl) (by kernel_rfl) (by kernel_rfl) (fun _ _ _ h => h) (Or.inl ⟨by rfl, ?_⟩) hHeld ?_
  rotate_left
  · intro w hSw
    (try dsimp only at hSw)
    have y1 := cell_of hSw 1
    go_simp
    try with_reducible rfl
  (try simp only [Act.put]); (try simp only [List.setIfInBounds_toArray]); (try simp only [List.getElem_toArray]); (repeat (first | simp only [List.getElem_cons_succ] | simp only [List.getElem_cons_zero])); (repeat (first | simp only [List.set_cons_succ] | simp only [List.set_cons_zero]))
  refine wpAnyH_take (i := 7) (v := ?_) rfl (by kernel_rfl) (by kernel_rfl) (by kernel_rfl) (fun _ _ _ h => h) (Or.inl ⟨by rfl, ?_⟩) hHeld ?_
  rotate_left
  · intro w hSw
    (try dsimp only at hSw)
    go_simp
    try with_reducible rfl
  (try simp only [Act.put]); (try simp only [List.setIfInBounds_toArray]); (try simp only [List.getElem_toArray]); (repeat (first | simp only [List.getElem_cons_succ] | simp only [List.getElem_cons_zero])); (repeat (first | simp only [List.set_cons_succ] | simp only [List.set_cons_zero]))
  refine wpAnyH_take (i := 8) (v := ?_) rfl (by kernel_rfl) (by kernel_rfl) (by kernel_rfl) (fun _ _ _ h => h) (Or.inl ⟨by rfl, ?_⟩) hHeld ?_
  rotate_left
  · intro w hSw
    (try dsimp only at hSw)
    have y2 := cell_of hSw 2
    go_simp
    try with_reducible rfl
  (try simp only [Act.put]); (try simp only [List.setIfInBounds_toArray]); (try simp only [List.getElem_toArray]); (repeat (first | simp only [List.getElem_cons_succ] | simp only [List.getElem_cons_zero])); (repeat (first | simp only [List.set_cons_succ] | simp only [List.set_cons_zero]))
  refine wpAnyH_take (i := 10) (v := ?_) rfl (by kernel_rfl) (by kernel_rfl) (by kernel_rfl) (fun _ _ _ h => h) (Or.inl ⟨by rfl, ?_⟩) hHeld ?_
  rotate_left
  · intro w hSw
    (try dsimp only at hSw)
    go_simp
    try with_reducible rfl
  (try simp only [Act.put]); (try simp only [List.setIfInBounds_toArray]); (try simp only [List.getElem_toArray]); (repeat (first | simp only [List.getElem_cons_succ] | simp only [List.getElem_cons_zero])); (repeat (first | simp only [List.set_cons_succ] | simp only [List.set_cons_zero]))
  refine wpAnyH_take (i := 11) (v := ?_) rfl (by kernel_rfl) (by kernel_rfl) (by kernel_rfl) (fun _ _ _ h => h) (Or.inl ⟨by rfl, ?_⟩) hHeld ?_
  rotate_left
  · intro w hSw
    (try dsimp only at hSw)
    have y3 := cell_of hSw 3
    go_simp
    try with_reducible rfl
  (try simp only [Act.put]); (try simp only [List.setIfInBounds_toArray]); (try simp only [List.getElem_toArray]); (repeat (first | simp only [List.getElem_cons_succ] | simp only [List.getElem_cons_zero])); (repeat (first | simp only [List.set_cons_succ] | simp only [List.set_cons_zero]))
  refine wpAnyH_ready (rs := [3]) (by kernel_rfl) (by simp) ?_
  refine AllReadyH.cons rfl (fun KK hKK => ?_) AllReadyH.nil
  go_simp
  refine (HA.out _ HB4.out.bel).mono ?_
  rintro e v1 ⟨rfl, D9⟩
  have HV1 := keepH (HB4.out.on D9)
  have hcc := heap_below hHeld D9
  clear D9
  refine hKK.out _ _ ?_ (fun hHeld => ?_)
  · exact hcc
  clear hKK KK
  (try simp only [Act.put]); (try simp only [List.setIfInBounds_toArray]); (try simp only [List.getElem_toArray]); (repeat (first | simp only [List.getElem_cons_succ] | simp only [List.getElem_cons_zero])); (repeat (first | simp only [List.set_cons_succ] | simp only [List.set_cons_zero]))
  refine wpAnyH_ready (rs := [6]) (by kernel_rfl) (by simp) ?_
  refine AllReadyH.cons rfl (fun KK hKK => ?_) AllReadyH.nil
  go_simp
  refine (HBb.out _ HV1.out.bel).mono ?_
  rintro e v2 ⟨rfl, D9⟩
  have HV2 := keepH (HV1.out.on D9)
  have hcc := heap_below hHeld D9
  clear D9
  refine hKK.out _ _ ?_ (fun hHeld => ?_)
  · exact hcc
  clear hKK KK
  (try simp only [Act.put]); (try simp only [List.setIfInBounds_toArray]); (try simp only [List.getElem_toArray]); (repeat (first | simp only [List.getElem_cons_succ] | simp only [List.getElem_cons_zero])); (repeat (first | simp only [List.set_cons_succ] | simp only [List.set_cons_zero]))
  refine wpAnyH_ready (rs := [9]) (by kernel_rfl) (by simp) ?_
  refine AllReadyH.cons rfl (fun KK hKK => ?_) AllReadyH.nil
  go_simp
  refine (HC.out _ HV2.out.bel).mono ?_
  rintro e v3 ⟨rfl, D9⟩
  have HV3 := keepH (HV2.out.on D9)
  have hcc := heap_below hHeld D9
  clear D9
  refine hKK.out _ _ ?_ (fun hHeld => ?_)
  · exact hcc
  clear hKK KK
  (try simp only [Act.put]); (try simp only [List.setIfInBounds_toArray]); (try simp only [List.getElem_toArray]); (repeat (first | simp only [List.getElem_cons_succ] | simp only [List.getElem_cons_zero])); (repeat (first | simp only [List.set_cons_succ] | simp only [List.set_cons_zero]))
  refine wpAnyH_ready (rs := [12]) (by kernel_rfl) (by simp) ?_
  refine AllReadyH.cons rfl (fun KK hKK => ?_) AllReadyH.nil
  go_simp
  refine (HD.out _ HV3.out.bel).mono ?_
  rintro e v4 ⟨rfl, D9⟩
  have HV4 := keepH (HV3.out.on D9)
  have hcc := heap_below hHeld D9
  have HQ4 := keepH hcc
  clear D9
  refine hKK.out _ _ ?_ (fun hHeld => ?_)
  · exact hcc
  clear hKK KK
  (try simp only [Act.put]); (try simp only [List.setIfInBounds_toArray]); (try simp only [List.getElem_toArray]); (repeat (first | simp only [List.getElem_cons_succ] | simp only [List.getElem_cons_zero])); (repeat (first | simp only [List.set_cons_succ] | simp only [List.set_cons_zero]))
  obtain ⟨v5, hv5⟩ : ∃ v5, v5 = v4.alloc (.cells #[.string ⟨#[99, 111, 110, 102, 105, 103]⟩, .string sa, .string sb, .string sc, .string sd] 9) := ⟨_, rfl⟩
  obtain ⟨G, hG⟩ : ∃ G, G = v4.heap.size := ⟨_, rfl⟩
  have HV5 : Hid (PB W B b P row [] v5) := keepH (by rw [hv5]; exact HV4.out.on (below_alloc _ _))
  have HQ5 : Hid (v5.heap[Q]? = some (.cells #[.int .i64 ce, .int .i64 sl, .int .u64 (stp : Int), .int .i64 mu] 42 (0, 0))) := keepH (by rw [hv5]; exact heap_below HQ4.out (below_alloc _ _))
  have HG5 : Hid (v5.heap[G]? = some (.cells #[.string ⟨#[99, 111, 110, 102, 105, 103]⟩, .string sa, .string sb, .string sc, .string sd] 9 (0, 0))) := keepH (by rw [hv5, hG]; exact heap_alloc_new _ _)
  have HW5 := keepH hv5
  have HGG := keepH hG
  clear hv5 hG
  refine wpAnyH_ready (rs := [13]) (by kernel_rfl) (by simp) ?_
  refine AllReadyH.cons rfl (fun KK hKK => ?_) AllReadyH.nil
  go_simp
  rw [← HW5.out, ← HGG.out]
  refine hKK.out _ _ ?_ (fun hHeld => ?_)
  · exact HQ5.out
  clear hKK KK
  (try simp only [Act.put]); (try simp only [List.setIfInBounds_toArray]); (try simp only [List.getElem_toArray]); (repeat (first | simp only [List.getElem_cons_succ] | simp only [List.getElem_cons_zero])); (repeat (first | simp only [List.set_cons_succ] | simp only [List.set_cons_zero]))
  refine wpAnyH_ready (rs := [14]) (by kernel_rfl) (by simp) ?_
  refine AllReadyH.cons rfl (fun KK hKK => ?_) AllReadyH.nil
  go_simp
  refine (HLN.out v5 G HV5.out HG5.out).mono ?_
  rintro e v6 ⟨rfl, F6, C6, K6⟩
  have HV6 := keepH (HV5.out.wrote F6 C6)
  have hcc := K6 Q _ HQ5.out (fun e => HQb.out (Option.some.inj e)) (fun _ _ e => by cases e)
  clear F6 C6 K6
  refine hKK.out _ _ ?_ (fun hHeld => ?_)
  · exact hcc
  clear hKK KK
  (try simp only [Act.put]); (try simp only [List.setIfInBounds_toArray]); (try simp only [List.getElem_toArray]); (repeat (first | simp only [List.getElem_cons_succ] | simp only [List.getElem_cons_zero])); (repeat (first | simp only [List.set_cons_succ] | simp only [List.set_cons_zero]))
  refine wpAnyH_done (by kernel_rfl) ?_ _
  go_simp
  clear hHeld
  go_wp2_with fail
  refine (voc_new v6).mono ?_
  rintro e w7 ⟨rfl, hVoc, B7⟩
  have HV7 := keepH (HV6.out.on B7)
  have HVC := keepH hVoc
  obtain ⟨vb, hvb⟩ : ∃ vb, vb = v6.heap.size := ⟨_, rfl⟩
  rw [← hvb] at HVC ⊢
  have HVB : Hid (vb ≠ b) := keepH (by
    have h1 := HV6.out.bld
    have h2 : b < v6.heap.size := by
      rcases h1 with h1 | h1
      · obtain ⟨_, _, hb, _⟩ := h1; exact (Array.getElem?_eq_some_iff.1 hb).1
      · obtain ⟨_, _, hb, _⟩ := h1; exact (Array.getElem?_eq_some_iff.1 hb).1
    omega)
  have d4 : w7.cell? ⟨P, 4, none⟩ = some (.slice tp n tc) := by have := cell_of HV7.out.box 4; rw [HROW.out] at this; exact this
  clear hVoc B7 hvb HA HBb HC HD HLN HB4 HX4 HB3 HV1 HV2 HV3 HV4 HV5 HV6
  go_wp2_with fail
  go_loopw [10, 12, 42] (fun s10 s12 s42 wr => ∃ i : Nat, i ≤ n ∧ s42 = .int .i64 (i : Int) ∧ Hid (∃ t, PB W B b P row t wr ∧ IsVoc wr vb ∧ t ++ (thsT (ts.drop i) ++ pksT ps) = tx)) (fun _ _ s42 _ => n - (intOf s42).toNat)
  case atStart => exact ⟨0, by omega, rfl, keepH ⟨_, HV7.out, HVC.out, by rw [HTX.out, List.drop_zero]⟩⟩
  case round =>
    clear d4 HV7 HVC
    obtain ⟨i, hi, rfl, HI⟩ := hrel
    obtain ⟨t, hpb, hvc, hte⟩ := HI.out
    have HPB := keepH hpb
    have HVC := keepH hvc
    have HTE := keepH hte
    clear hpb hvc hte HI
    by_cases hlt : i < n
    · have q1 : (i : Int) < (n : Int) := by omega
      have q0 : (0 : Int) ≤ (i : Int) := by omega
      obtain ⟨l, hl⟩ : ∃ l, ts[i]? = some l := ⟨ts[i]'(by have := HN.out; omega), List.getElem?_eq_getElem _⟩
      obtain ⟨bk, off, lp, lc, rfl, hbk, hO, c0⟩ := (HT.out.on HPB.out.bel).get i l hl
      obtain ⟨k, hk⟩ : ∃ k, k = l.length := ⟨_, rfl⟩
      have hk1 := HS.out.ll l (List.mem_of_getElem? hl)
      rw [← hk] at c0 hk1
      have HX := keepH hl
      have HK := keepH hk
      have HTE2 : Hid (t ++ ((thW ++ [10]) ++ (opsT l ++ (thsT (ts.drop (i + 1)) ++ pksT ps))) = tx) := keepH (by rw [← HTE.out, drop_at hl, thsT_cons, thT]; simp)
      have HO : Hid (∀ w, Below W.heap.size W w → ORd w lp l) := keepH (fun w hb => by
        obtain ⟨_, _, lp2, lc2, e1, _, hO2, c2⟩ := (HT.out.on hb).get i l hl
        have e3 : lp2 = lp := by
          obtain ⟨_, _, lp3, lc3, e4, hb3, _, c3⟩ := HT.out.get i l hl
          have a1 := cell_below c3 hb
          have a2 := cell_below c3 HPB.out.bel
          injection e1 with e1
          injection e4 with e4
          injection e1 with e11 e12
          injection e4 with e41 e42
          subst e11 e12 e41 e42
          rw [c2] at a1
          rw [c0] at a2
          simp at a1 a2
          rw [a1.1, ← a2.1]
        rw [← e3]
        exact hO2)
      obtain ⟨wa, hwa⟩ : ∃ wa, wa = wr.alloc (.cells #[.string ⟨#[116, 104, 114, 101, 97, 100]⟩] 9) := ⟨_, rfl⟩
      obtain ⟨G, hG⟩ : ∃ G, G = wr.heap.size := ⟨_, rfl⟩
      have HPA : Hid (PB W B b P row t wa) := keepH (by rw [hwa]; exact HPB.out.on (below_alloc _ _))
      have HVA : Hid (IsVoc wa vb) := keepH (by rw [hwa]; exact HVC.out.on (below_alloc _ _))
      have HLL := keepH (HPA.out.line1 thW G (by rw [hwa, hG]; exact heap_alloc_new _ _) (by have h1 := pre_len HTE2.out; have h2 := HLEN.out; omega) (by decide))
      have HWA := keepH hwa
      have HGG := keepH hG
      clear hl hk hbk hO hwa hG HPB HVC
      go_upto_region 12 with fail
      clear c0
      go_wp2_with (first | (go_at_call 38; rw [← HWA.out, ← HGG.out]; refine HLL.out.mono ?_; rintro e w8 ⟨rfl, hp8, hk8⟩; have HP8 := keepH hp8; have HV8 := keepH (voc_kept HVA.out hk8 HVB.out); clear hp8 hk8) | go_in)
      go_loopw [12, 51] (fun s12 s51 wr => ∃ j : Nat, j ≤ k ∧ s51 = .int .i64 (j : Int) ∧ Hid (∃ t, PB W B b P row t wr ∧ IsVoc wr vb ∧ t ++ (opsT (l.drop j) ++ (thsT (ts.drop (i + 1)) ++ pksT ps)) = tx)) (fun _ s51 _ => k - (intOf s51).toNat)
      case atStart => exact ⟨0, by omega, rfl, keepH ⟨_, HP8.out, HV8.out, by rw [← HTE2.out, List.drop_zero]; simp⟩⟩
      case round =>
        clear HP8 HV8 HLL HPA HVA HWA HGG HTE HTE2
        obtain ⟨j, hj, rfl, HI⟩ := hrel
        obtain ⟨t2, hpb, hvc, hte⟩ := HI.out
        have HPB := keepH hpb
        have HVC := keepH hvc
        have HTE := keepH hte
        clear hpb hvc hte HI
        by_cases hlj : j < k
        · have r1 : (j : Int) < (k : Int) := by omega
          have r0 : (0 : Int) ≤ (j : Int) := by omega
          obtain ⟨o, ho⟩ : ∃ o, l[j]? = some o := ⟨l[j]'(by have := HK.out; omega), List.getElem?_eq_getElem _⟩
          obtain ⟨bk2, off2, kp, kc, rfl, hbk2, hKR, a0, a1, a2, a3, a4, a5, a6, a7, a8, a9, a10⟩ := (HO.out wr HPB.out.bel).get j o ho
          have hoo := HS.out.ok l (List.mem_of_getElem? HX.out) o (List.mem_of_getElem? ho)
          have hof := HALL.out l (List.mem_of_getElem? HX.out) o (List.mem_of_getElem? ho)
          have hte2 : t2 ++ ((textO o ++ [10]) ++ (opsT (l.drop (j + 1)) ++ (thsT (ts.drop (i + 1)) ++ pksT ps))) = tx := by rw [← HTE.out, drop_at ho, opsT_cons]; simp
          have hle : t2.length ≤ 100000000000 ∧ (textO o).length ≤ 100000000000 := by
            have h1 := pre_len hte2
            have h2 := HLEN.out
            simp at h1
            omega
          obtain ⟨ok, key, val, old, hnd, set, rt, ri, keys, lo, hi2⟩ := o
          simp only at a0 a1 a2 a3 a4 a5 a6 a7 a8 a9 a10 hKR
          obtain ⟨w9, hw9⟩ : ∃ w9, w9 = wr.alloc (.cells (opR ok key val old hnd set rt ri (.slice kp keys.length kc) lo hi2) 28) := ⟨_, rfl⟩
          obtain ⟨D, hD⟩ : ∃ D, D = wr.heap.size := ⟨_, rfl⟩
          have C9 : Below wr.heap.size wr w9 := by rw [hw9]; exact below_alloc _ _
          have X9 : w9.heap[D]? = some (.cells (opR ok key val old hnd set rt ri (.slice kp keys.length kc) lo hi2) 28 (0, 0)) := by rw [hw9, hD]; exact heap_alloc_new _ _
          have HP9 := keepH (HPB.out.on C9)
          have HV9 := keepH (HVC.out.on C9)
          have hpr := print_any vb ok key val old hnd set rt ri kp kc lo hi2 keys hoo.1.k (fault_has hof) hoo.1.key hoo.1.val hoo.1.old hoo.1.hnd hoo.1.lo hoo.1.hi hoo.1.rt hoo.1.ri hoo.1.keys hoo.2 w9 HV9.out (HWD.out.on HP9.out.bel) (HTB.out.on HP9.out.bel) (hKR.on C9)
          obtain ⟨nk, hnk⟩ : ∃ nk, nk = keys.length := ⟨_, rfl⟩
          rw [← hnk] at a8 hw9 X9 hpr
          have hx1 : opT ok key val old hnd set rt ri keys lo hi2 = textO ⟨ok, key, val, old, hnd, set, rt, ri, keys, lo, hi2⟩ := rfl
          rw [hx1] at hpr
          obtain ⟨tq, htq⟩ : ∃ tq, tq = textO ⟨ok, key, val, old, hnd, set, rt, ri, keys, lo, hi2⟩ := ⟨_, rfl⟩
          rw [← htq] at hpr hte2 hle
          obtain ⟨so, hso⟩ : ∃ s, s = mkS tq := ⟨_, rfl⟩
          rw [← hso] at hpr
          have HSO := keepH hso
          have HPR := keepH hpr
          have HTE2 := keepH hte2
          have HLE := keepH hle
          have d0 : w9.cell? ⟨D, 0, none⟩ = _ := cell_of X9 0
          have d1 : w9.cell? ⟨D, 1, none⟩ = _ := cell_of X9 1
          have d2 : w9.cell? ⟨D, 2, none⟩ = _ := cell_of X9 2
          have d3 : w9.cell? ⟨D, 3, none⟩ = _ := cell_of X9 3
          have d4 : w9.cell? ⟨D, 4, none⟩ = _ := cell_of X9 4
          have d5 : w9.cell? ⟨D, 5, none⟩ = _ := cell_of X9 5
          have d6 : w9.cell? ⟨D, 6, none⟩ = _ := cell_of X9 6
          have d7 : w9.cell? ⟨D, 7, none⟩ = _ := cell_of X9 7
          have d8 : w9.cell? ⟨D, 8, none⟩ = _ := cell_of X9 8
          have d9 : w9.cell? ⟨D, 9, none⟩ = _ := cell_of X9 9
          have d10 : w9.cell? ⟨D, 10, none⟩ = _ := cell_of X9 10
          have HW9 := keepH hw9
          have HD := keepH hD
          clear ho hKR hbk2 hnk hw9 hD C9 X9 hoo hof hte2 hle hpr hx1 htq hso HPB HVC HTE
          go_upto_region 16 with fail
          rw [← HW9.out, ← HD.out]
          clear HW9 HD a0 a1 a2 a3 a4 a5 a6 a7 a8 a9 a10
          go_wp2_with fail
          refine HPR.out.mono ?_
          rintro e wb ⟨rfl, Cb⟩
          obtain ⟨wd, hwd⟩ : ∃ wd, wd = wb.alloc (.cells #[.string so] 9) := ⟨_, rfl⟩
          obtain ⟨G2, hG2⟩ : ∃ G, G = wb.heap.size := ⟨_, rfl⟩
          have HPD : Hid (PB W B b P row t2 wd) := keepH (by rw [hwd]; exact (HP9.out.on Cb).on (below_alloc _ _))
          have HVD : Hid (IsVoc wd vb) := keepH (by rw [hwd]; exact (HV9.out.on Cb).on (below_alloc _ _))
          have HLL := keepH (HPD.out.line1 tq G2 (by rw [hwd, hG2, HSO.out]; exact heap_alloc_new _ _) HLE.out.1 HLE.out.2)
          have HWD2 := keepH hwd
          have HGG2 := keepH hG2
          clear hwd hG2 Cb d0 d1 d2 d3 d4 d5 d6 d7 d8 d9 d10 HPR HP9 HV9
          go_wp2_with (first | (go_at_call 38; rw [← HWD2.out, ← HGG2.out]; refine HLL.out.mono ?_; rintro e w8 ⟨rfl, hp8, hk8⟩; have HP8 := keepH hp8; have HV8 := keepH (voc_kept HVD.out hk8 HVB.out); clear hp8 hk8) | go_in)
          go_roundw
          case rel => exact ⟨j + 1, by omega, by first | rfl | go_num, keepH ⟨_, HP8.out, HV8.out, by rw [← HTE2.out]; simp⟩⟩
          case measure => simp [intOf]; omega
        · obtain rfl : j = k := by omega
          have r1 : ¬ (j : Int) < (j : Int) := by omega
          have HTE2 : Hid (t2 ++ (thsT (ts.drop (i + 1)) ++ pksT ps) = tx) := keepH (by rw [← HTE.out, HK.out, List.drop_length]; simp [opsT])
          go_wp2_with fail
          go_roundw
          case rel => exact ⟨i + 1, by omega, by first | rfl | go_num, keepH ⟨_, HPB.out, HVC.out, HTE2.out⟩⟩
          case measure => simp [intOf]; omega
    · obtain rfl : i = n := by omega
      have q1 : ¬ (i : Int) < (i : Int) := by omega
      have HTE2 : Hid (t ++ pksT ps = tx) := keepH (by rw [← HTE.out, HN.out, List.drop_length]; simp [thsT])
      have p5 : wr.cell? ⟨P, 5, none⟩ = some (.slice pp m pc) := by have := cell_of HPB.out.box 5; rw [HROW.out] at this; exact this
      clear HTE HVC
      obtain ⟨wo, hwo⟩ : ∃ wo, wo = wr := ⟨_, rfl⟩
      subst hwo
      go_wp2_with fail
      go_loopw [13, 14] (fun s13 s14 wr => ∃ (q : Option Addr) (k cc : Nat), s13 = .slice q k cc ∧ k ≤ 10000000 ∧ k ≤ cc ∧ Hid (∃ t left, k = left.length ∧ IRd W q left ∧ (∀ x ∈ left, isI x) ∧ PB W B b P row t wr ∧ t ++ pksT left = tx)) (fun s13 _ _ => slNp s13)
      case atStart => exact ⟨pp, m, pc, rfl, hm1, hpc, keepH ⟨t, ps, HM.out, HIP.out, HS.out.pk, HPB.out, HTE2.out⟩⟩
      case round =>
        clear p5 HPB HTE2
        obtain ⟨q, k, cc, rfl, hk1, hkc, HI⟩ := hrel
        obtain ⟨t2, left, hkl, hir, hii, hpb, hte⟩ := HI.out
        have HPB := keepH hpb
        have HTE := keepH hte
        have HKL := keepH hkl
        have HIR := keepH hir
        have HII := keepH hii
        clear hpb hte hkl hir hii HI
        by_cases hk0 : 0 < k
        · have r0 : (k : Int) > 0 := by omega
          have hne : left ≠ [] := fun e => by have := HKL.out; rw [e] at this; simp at this; omega
          obtain ⟨bk, off, hq⟩ : ∃ bk off, q = some ⟨bk, off, none⟩ := by
            rcases HIR.out with e | ⟨bk, off, e, _⟩
            · exact absurd e hne
            · exact ⟨bk, off, e⟩
          subst hq
          have hte2 : t2 ++ ((pkT (left.take 20) ++ [10]) ++ pksT (left.drop 20)) = tx := by rw [← pksT_step hne]; exact HTE.out
          have HTE2 := keepH hte2
          have HLE : Hid (t2.length ≤ 100000000000 ∧ (pkT (left.take 20)).length ≤ 100000000000) := keepH (by
            have h1 := pre_len hte2
            have h2 := HLEN.out
            simp at h1
            omega)
          obtain ⟨c, hc⟩ : ∃ c, c = min k 20 := ⟨_, rfl⟩
          have hc1 : c ≤ k := by omega
          have hlo := sli_lo (some ⟨bk, off, none⟩) k cc c hc1 hkc bk off rfl
          obtain ⟨off', hhi, hoe⟩ := sli_hi k cc c bk off hc1 hkc
          have hct : (left.take 20).length = c := by rw [List.length_take, ← HKL.out, hc]; omega
          have hcd : left.drop 20 = left.drop c := by
            by_cases h20 : k ≤ 20
            · rw [List.drop_eq_nil_of_le (by rw [← HKL.out]; exact h20), List.drop_eq_nil_of_le (by rw [← HKL.out]; omega)]
            · rw [hc, show min k 20 = 20 by omega]
          have HRN : Hid (IRd W (some ⟨bk, off', none⟩) (left.drop 20)) := keepH (by rw [hcd]; exact HIR.out.drop (fun h => hoe (by have := HKL.out; omega)))
          have HKN : Hid (k - c = (left.drop 20).length) := keepH (by rw [hcd, List.length_drop, ← HKL.out])
          have hpp := picksParts_any (some ⟨bk, off, none⟩) cc (left.take 20) (by rw [hct]; omega) (fun x hx => HII.out x (List.mem_of_mem_take hx)) wr (HTB.out.on HPB.out.bel) ((HIR.out.take 20).on HPB.out.bel)
          rw [hct] at hpp
          have HPP := keepH hpp
          have HC := keepH hc
          have hci : (min (k : Int) 20) = (c : Int) := by omega
          have hc0 : 0 < c := by omega
          have HPL : Hid ((pkL (left.take 20)).length = c + 1) := keepH (by simp [pkL, ← hct])
          obtain ⟨kn, hkn⟩ : ∃ kn, kn = k - c := ⟨_, rfl⟩
          rw [← hkn] at hhi HKN
          have HKE : Hid (kn + c = k) := keepH (by omega)
          obtain ⟨cn, hcn⟩ : ∃ cn, cn = cc - c := ⟨_, rfl⟩
          rw [← hcn] at hhi
          have HCN : Hid (kn ≤ cn) := keepH (by omega)
          clear hk0 hne hte2 hoe hct hcd hpp hc hkn hcn
          go_upto_region 22 with fail
          go_wp2_with fail
          refine HPP.out.mono ?_
          rintro e w8 ⟨v, rfl, hst⟩
          obtain ⟨g, c9, hv, hg, hc9, hcl⟩ := hst.slice (by simp [pkL])
          have hln := (HPB.out.on hst.bel).lineN (pkL (left.take 20)) g c9 hg hc9 hcl (by rw [HPL.out]; omega) HLE.out.1 HLE.out.2
          rw [HPL.out] at hv hln
          subst hv
          have HLL := keepH hln
          clear hst hg hc9 hcl hln
          go_wp2_with (first | (go_at_call 38; refine HLL.out.mono ?_; rintro e wb ⟨rfl, hpb, _⟩; have HPN := keepH hpb; clear hpb) | go_in)
          go_roundw
          case rel => exact ⟨some ⟨bk, off', none⟩, kn, cn, rfl, by have := HKE.out; omega, HCN.out, keepH ⟨_, left.drop 20, HKN.out, HRN.out, fun x hx => HII.out x (List.mem_of_mem_drop hx), HPN.out, by rw [← HTE2.out]; simp [pkT]⟩⟩
          case measure => simp [slNp]; have := HKE.out; omega
        · have r0 : ¬ (k : Int) > 0 := by omega
          have hl0 : left = [] := List.eq_nil_of_length_eq_zero (by rw [← HKL.out]; omega)
          have hte2 : t2 = tx := by rw [← HTE.out, hl0, pksT_nil]; simp
          have hbs := bs_any B b t2 wr HPB.out.bld HPB.out.hi
          rw [hte2] at hbs
          obtain ⟨sP, hsP⟩ : ∃ sP, sP = mkS tx := ⟨_, rfl⟩
          rw [show (⟨tx.toArray⟩ : ByteArray) = sP from hsP.symm] at hbs
          have HSP := keepH hsP
          have HBS := keepH hbs
          clear hl0 hte2 hbs hsP hk0
          go_wp2_with fail
          refine HBS.out.mono ?_
          rintro e w8 ⟨rfl, C8, _⟩
          have HB8 := keepH (HPB.out.bel.trans (C8.mono HPB.out.lW))
          clear C8
          go_wp2_with fail
          go_ret2
          exact ⟨by rw [← HSP.out]; rfl, HB8.out⟩
end Go.Proofs.YtmmaniolaljjlaaGreatDoor
/- A script as lines, by the document; one that is not right, by both. (mkSeq.py) -/
namespace Go.Proofs.YtmmaniolaljjlaaGreatDoor
open Go.RowKit Go.Shelf
set_option linter.unusedVariables false

set_option maxRecDepth 100000 in
set_option maxHeartbeats 4000000 in
theorem sPrint_no (ce sl : Int) (stp : Nat) (mu : Int) (tp : Option Addr) (tc : Nat) (pp : Option Addr) (pc : Nat) (ts : List (List Opx)) (ps : List Int) (hS : SOk ts ps) (W : World) (hT : TRd W tp ts) (hW : Wd W) (hr : rtS ce sl stp mu ts ps ≠ 0) :
    Calls Tryz.prog 16 #[.agg (scR ce sl stp mu (.slice tp ts.length tc) (.slice pp ps.length pc))] W fun e W' => e = .returned (.tuple #[.string ⟨#[]⟩, .int .i64 (rtS ce sl stp mu ts ps : Int)]) ∧ Below W.heap.size W W' := by
  obtain ⟨V, hV⟩ : ∃ V, V = rtS ce sl stp mu ts ps := ⟨_, rfl⟩
  rw [← hV] at hr ⊢
  obtain ⟨w1, hw1⟩ : ∃ w1, w1 = W.alloc (.cells (scR ce sl stp mu (.slice tp ts.length tc) (.slice pp ps.length pc)) 46) := ⟨_, rfl⟩
  obtain ⟨P, hPP⟩ : ∃ P, P = W.heap.size := ⟨_, rfl⟩
  have B1 : Below W.heap.size W w1 := by rw [hw1]; exact below_alloc _ _
  have hRT := sRight_any ce sl stp mu tp tc pp pc ts ps hS w1 (hT.on B1) (hW.on B1)
  rw [← hV] at hRT
  have HX1 : Hid (w1.heap[P]? = some (.cells (scR ce sl stp mu (.slice tp ts.length tc) (.slice pp ps.length pc)) 46 (0, 0))) := keepH (by rw [hw1, hPP]; exact heap_alloc_new _ _)
  obtain ⟨n, hn⟩ : ∃ n, n = ts.length := ⟨_, rfl⟩
  obtain ⟨m, hm⟩ : ∃ m, m = ps.length := ⟨_, rfl⟩
  rw [← hn, ← hm] at hRT HX1 hw1 ⊢
  have HRT := keepH hRT
  have HW1 := keepH hw1
  have HP := keepH hPP
  have HB1 := keepH B1
  have q0 : ((V : Int) != 0) = true := by simp; omega
  have q1 : ¬ (V : Int) = 0 := by omega
  have d0 : w1.cell? ⟨P, 0, none⟩ = _ := cell_of HX1.out 0
  have d1 : w1.cell? ⟨P, 1, none⟩ = _ := cell_of HX1.out 1
  have d2 : w1.cell? ⟨P, 2, none⟩ = _ := cell_of HX1.out 2
  have d3 : w1.cell? ⟨P, 3, none⟩ = _ := cell_of HX1.out 3
  have d4 : w1.cell? ⟨P, 4, none⟩ = _ := cell_of HX1.out 4
  have d5 : w1.cell? ⟨P, 5, none⟩ = _ := cell_of HX1.out 5
  clear hV hw1 hPP B1 hRT hn hm hS hT hW hr
  go_enter Tryz.func16, Tryz.ntmps16
  go_upto_region 1 with fail
  rw [← HW1.out, ← HP.out]
  go_wp2_with fail
  refine HRT.out.mono ?_
  rintro e w2 ⟨rfl, B2⟩
  have HB2 := keepH (below_chain HB1.out B2)
  clear B2 d0 d1 d2 d3 d4 d5
  go_wp2_with fail
  go_ret2
  exact ⟨rfl, HB2.out⟩
end Go.Proofs.YtmmaniolaljjlaaGreatDoor
/- The law ScriptRights, walked. (mkSev.py) -/
namespace Go.Proofs.YtmmaniolaljjlaaGreatDoor
open Go.RowKit Go.Shelf
set_option linter.unusedVariables false

def txS (ce sl : Int) (stp : Nat) (mu : Int) (ts : List (List Opx)) (ps : List Int) : List UInt8 := if rtS ce sl stp mu ts ps = 0 then texS ce sl stp mu ts ps else []
theorem sPrint_any (ce sl : Int) (stp : Nat) (mu : Int) (h1 : isI ce) (h2 : isI sl) (h3 : isU stp) (h4 : isI mu) (tp : Option Addr) (tc : Nat) (pp : Option Addr) (pc : Nat) (ts : List (List Opx)) (ps : List Int) (hS : SOk ts ps) (hpc : ps.length ≤ pc) (hlen : (texS ce sl stp mu ts ps).length ≤ 100000000000) (W : World) (hT : TRd W tp ts) (hP : IRd W pp ps) (hW : Wd W) (T : Tb W) :
    Calls Tryz.prog 16 #[.agg (scR ce sl stp mu (.slice tp ts.length tc) (.slice pp ps.length pc))] W fun e W' => e = .returned (.tuple #[.string (mkS (txS ce sl stp mu ts ps)), .int .i64 (rtS ce sl stp mu ts ps : Int)]) ∧ Below W.heap.size W W' := by
  by_cases hr : rtS ce sl stp mu ts ps = 0
  · rw [txS, if_pos hr, hr]
    exact sPrint_yes ce sl stp mu h1 h2 h3 h4 tp tc pp pc ts ps hS hpc hlen W hT hP hW T hr
  · rw [txS, if_neg hr]
    exact sPrint_no ce sl stp mu tp tc pp pc ts ps hS W hT hW hr
end Go.Proofs.YtmmaniolaljjlaaGreatDoor
