/- The config of a first line, by the document. (mkSfd.py) -/
import Derived.Test.YtmmaniolaljjlaaGreatDoorP17Scs
import Derived.Test.YtmmaniolaljjlaaGreatDoorP20Sdj
import Derived.Deep.RegionHeld
namespace Go.Proofs.YtmmaniolaljjlaaGreatDoor
open Go.RowKit Go.Shelf
set_option linter.unusedVariables false

def CfQ (t : List UInt8) (ok : Bool) (ce sl : Int) (stp : Nat) (mu : Int) : Prop := (ok = true → (isI ce ∧ isI sl ∧ isU stp ∧ isI mu) ∧ cfgE ce sl stp mu = 0 ∧ t = cfT ce sl stp mu) ∧ ∀ ce' sl' stp' mu', isI ce' → isI sl' → isU stp' → isI mu' → cfgE ce' sl' stp' mu' = 0 → t = cfT ce' sl' stp' mu' → ok = true ∧ ce = ce' ∧ sl = sl' ∧ stp = stp' ∧ mu = mu'
theorem cfq_no {t f0 : List UInt8} {r0 : List (List UInt8)} (hs : Lib.split t [32] = f0 :: r0) (h : r0.length ≠ 4) : CfQ t false 0 0 0 0 := by
  refine ⟨fun e => by simp at e, fun ce' sl' stp' mu' _ _ _ _ _ e => ?_⟩
  have e2 : f0 :: r0 = cfL ce' sl' stp' mu' := by rw [← hs, e, cfT_split]
  simp only [cfL, List.cons.injEq] at e2
  rw [e2.2] at h
  simp at h
theorem cfq_of {t f0 f1 f2 f3 f4 : List UInt8} {ce sl mu : Int} {stp : Nat} {ok : Bool} (hs : Lib.split t [32] = [f0, f1, f2, f3, f4]) (i1 : isI ce) (i2 : isI sl) (i3 : isU stp) (i4 : isI mu) (z1 : ∀ z, Lib.atoiAll f1 = .ok z → ce = z) (z2 : ∀ z, Lib.atoiAll f2 = .ok z → sl = z) (z3 : ∀ z, natP f3 = some z → stp = z) (z4 : ∀ z, Lib.atoiAll f4 = .ok z → mu = z)
    (hok : ok = true ↔ (cfgE ce sl stp mu = 0 ∧ cfT ce sl stp mu = t)) : CfQ t ok ce sl stp mu := by
  refine ⟨fun h => ?_, fun ce' sl' stp' mu' j1 j2 j3 j4 hc e => ?_⟩
  · obtain ⟨a, b⟩ := hok.1 h
    exact ⟨⟨i1, i2, i3, i4⟩, a, b.symm⟩
  · have e2 : [f0, f1, f2, f3, f4] = cfL ce' sl' stp' mu' := by rw [← hs, e, cfT_split]
    simp only [cfL, List.cons.injEq, and_true] at e2
    obtain ⟨_, e1, e22, e3, e4⟩ := e2
    have q1 := z1 ce' (by rw [e1]; exact atoi_itoa _ j1.1 j1.2)
    have q2 := z2 sl' (by rw [e22]; exact atoi_itoa _ j2.1 j2.2)
    have q3 := z3 stp' (by rw [e3]; exact natP_dec _ j3)
    have q4 := z4 mu' (by rw [e4]; exact atoi_itoa _ j4.1 j4.2)
    subst q1 q2 q3 q4
    exact ⟨hok.2 ⟨hc, e.symm⟩, rfl, rfl, rfl, rfl⟩
structure RC (W w2 : World) (D R : Nat) (row : Array Value) (wr : World) : Prop where
  bx : wr.heap[D]? = some (.cells row 42 (0, 0))
  rr : wr.heap[R]? = some (.cells #[.int .i64 0, .int .i64 0, .int .u64 0, .int .i64 0] 42 (0, 0))
  bel : Below W.heap.size W wr
  b2 : Below w2.heap.size w2 wr
  lD : w2.heap.size ≤ D
  lW : W.heap.size ≤ w2.heap.size
  lR : W.heap.size ≤ R
  ne : R ≠ D
theorem RC.on {W w2 : World} {D R : Nat} {row : Array Value} {wr X : World} (h : RC W w2 D R row wr) (hb : Below wr.heap.size wr X) : RC W w2 D R row X := ⟨heap_below h.bx hb, heap_below h.rr hb, below_chain h.bel hb, below_chain h.b2 hb, h.lD, h.lW, h.lR, h.ne⟩
structure RE9 (W : World) (R : Nat) (row : Array Value) (wr : World) : Prop where
  rr : wr.heap[R]? = some (.cells row 42 (0, 0))
  bel : Below W.heap.size W wr
theorem RC.row {W w2 : World} {D R : Nat} {row : Array Value} {wr : World} (h : RC W w2 D R row wr) (cs : Array Value) : (wr.setRow R cs).heap[D]? = some (.cells row 42 (0, 0)) ∧ (wr.setRow R cs).heap[R]? = some (.cells cs 42 (0, 0)) ∧ Below W.heap.size W (wr.setRow R cs) := ⟨(setRow_other _ _ _ _ (Ne.symm h.ne)).trans h.bx, setRow_heap _ _ _ _ _ _ h.rr, below_setRow h.bel h.lR _⟩
theorem RC.set {W w2 : World} {D R : Nat} {row : Array Value} {wr : World} (h : RC W w2 D R row wr) (i : Nat) (v : Value) : RC W w2 D R (row.setIfInBounds i v) (wr.setCell ⟨D, i, none⟩ v) := ⟨set_of h.bx i v, other_of h.rr h.ne v, h.bel.setCell (Nat.le_trans h.lW h.lD) _, h.b2.setCell h.lD _, h.lD, h.lW, h.lR, h.ne⟩
def CfR (W : World) (t : List UInt8) (e : Ending) (W' : World) : Prop := ∃ ce sl stp mu ok, e = .returned (.tuple #[.agg #[.int .i64 ce, .int .i64 sl, .int .u64 ((stp : Nat) : Int), .int .i64 mu], .bool ok]) ∧ CfQ t ok ce sl stp mu ∧ Below W.heap.size W W'
set_option maxRecDepth 100000 in
set_option maxHeartbeats 4000000 in
theorem dConfigured_any (t : List UInt8) (ht : t.length ≤ 5000000) (W : World) (T : Tb W) : Calls Tryz.prog 56 #[.string (mkS t)] W (CfR W t) := by
  obtain ⟨w1, hw1⟩ : ∃ w1, w1 = W.alloc (.cells #[.int .i64 0, .int .i64 0, .int .u64 0, .int .i64 0] 42) := ⟨_, rfl⟩
  obtain ⟨R, hR⟩ : ∃ R, R = W.heap.size := ⟨_, rfl⟩
  have B1 : Below W.heap.size W w1 := by rw [hw1]; exact below_alloc _ _
  have X1 : w1.heap[R]? = some (.cells #[.int .i64 0, .int .i64 0, .int .u64 0, .int .i64 0] 42 (0, 0)) := by rw [hw1, hR]; exact heap_alloc_new _ _
  have hwd := r_words t (by omega) w1
  obtain ⟨s, hs⟩ : ∃ s, s = mkS t := ⟨_, rfl⟩
  rw [← hs] at hwd ⊢
  have HS := keepH hs
  have HT := keepH T
  have HTL := keepH ht
  have HW1 := keepH hw1
  have HR := keepH hR
  have HB1 := keepH B1
  have HX1 := keepH X1
  clear hs T ht hw1 hR B1 X1
  go_enter Tryz.func56, Tryz.ntmps56
  go_upto_region 1 with fail
  rw [← HW1.out, ← HR.out]
  go_wp2_with fail
  refine hwd.mono ?_
  rintro e w2 ⟨wv, rfl, fs, r, hRW, hWD⟩
  obtain ⟨sb, cap, rfl⟩ := hRW.form
  have hsp := wd_split hWD
  obtain ⟨f0, r0, h00⟩ : ∃ f0 r0, fs ++ [r] = f0 :: r0 := by cases fs <;> exact ⟨_, _, rfl⟩
  obtain ⟨m, hm⟩ : ∃ m, m = r0.length := ⟨_, rfl⟩
  have hn1 : fs.length = m := by
    have := congrArg List.length h00
    simp at this
    omega
  rw [h00] at hsp hRW
  rw [hn1] at hRW ⊢
  have hlen := split_len t
  rw [hsp] at hlen
  have HSP := keepH hsp
  have HM := keepH hm
  have HFE : Hid (∀ f ∈ f0 :: r0, f.length ≤ 5000000) := keepH (fun f hf => Nat.le_trans (hlen.2 f hf) HTL.out)
  have hm5 : m ≤ 5000000 := by have h1 := hlen.1; have h2 := HTL.out; rw [hm]; simp at h1; omega
  have C2 : Below w1.heap.size w1 w2 := by have h := hRW.chg; exact ⟨h.os, h.tape, h.output, h.size, fun i hi => h.block i hi (fun x => x)⟩
  have HB2 := keepH (below_chain HB1.out C2)
  have HX2 := keepH (heap_below HX1.out C2)
  have HLR : Hid (W.heap.size ≤ R) := keepH (by rw [HR.out]; exact Nat.le_refl _)
  have HST : Hid (∀ (i : Nat) (f : List UInt8), (f0 :: r0)[i]? = some f → w2.cell? ⟨sb, i, none⟩ = some (.string (mkS f))) := keepH (fun i f hf => rowI_st hRW (by rw [hm]; rfl) hf)
  clear hwd hWD hsp h00 hm hn1 hRW hlen C2
  obtain ⟨N, hN⟩ : ∃ N, N = m + 1 := ⟨_, rfl⟩
  rw [← hN]
  have HN := keepH hN
  clear hN
  by_cases h4 : N = 5
  · have q1 : ((N : Int) != 5) = false := by rw [h4]; rfl
    have hl4 : r0.length = 4 := by have := HM.out; have := HN.out; omega
    obtain ⟨f1, f2, f3, f4, e4⟩ : ∃ f1 f2 f3 f4, r0 = [f1, f2, f3, f4] := by
      match r0, hl4 with
      | [a, b, c, d], _ => exact ⟨a, b, c, d, rfl⟩
    subst e4
    clear hl4
    have b1 : (1 : Int) < (N : Int) := by omega
    have b2 : (2 : Int) < (N : Int) := by omega
    have b3 : (3 : Int) < (N : Int) := by omega
    have b4 : (4 : Int) < (N : Int) := by omega
    have n1 : 1 < N := by omega
    have n2 : 2 < N := by omega
    have n3 : 3 < N := by omega
    have n4 : 4 < N := by omega
    have hl1 : f1.length ≤ 200000000 := Nat.le_trans (HFE.out f1 (by simp)) (by omega)
    have hl2 : f2.length ≤ 200000000 := Nat.le_trans (HFE.out f2 (by simp)) (by omega)
    have hl3 : f3.length ≤ 200000000 := Nat.le_trans (HFE.out f3 (by simp)) (by omega)
    have hl5 : f4.length ≤ 200000000 := Nat.le_trans (HFE.out f4 (by simp)) (by omega)
    have ha1 := fun w (hb : Below W.heap.size W w) => atoi_each f1 hl1 w (HT.out.on hb)
    have ha2 := fun w (hb : Below W.heap.size W w) => atoi_each f2 hl2 w (HT.out.on hb)
    have ha3 := fun w (hb : Below W.heap.size W w) => dNumber_any f3 hl3 w (HT.out.on hb)
    have ha4 := fun w (hb : Below W.heap.size W w) => atoi_each f4 hl5 w (HT.out.on hb)
    have c1 := HST.out 1 f1 rfl
    have c2 := HST.out 2 f2 rfl
    have c3 := HST.out 3 f3 rfl
    have c4 := HST.out 4 f4 rfl
    obtain ⟨s1, hs1⟩ : ∃ s, s = mkS f1 := ⟨_, rfl⟩
    obtain ⟨s2, hs2⟩ : ∃ s, s = mkS f2 := ⟨_, rfl⟩
    obtain ⟨s3, hs3⟩ : ∃ s, s = mkS f3 := ⟨_, rfl⟩
    obtain ⟨s4, hs4⟩ : ∃ s, s = mkS f4 := ⟨_, rfl⟩
    rw [← hs1] at ha1 c1
    rw [← hs2] at ha2 c2
    rw [← hs3] at ha3 c3
    rw [← hs4] at ha4 c4
    have HA1 := keepH ha1
    have HA2 := keepH ha2
    have HA3 := keepH ha3
    have HA4 := keepH ha4
    obtain ⟨w3, hw3⟩ : ∃ w3, w3 = w2.alloc (.cells #[.int .i64 0, .int .i64 0, .int .u64 0, .int .i64 0] 42) := ⟨_, rfl⟩
    obtain ⟨D, hD⟩ : ∃ D, D = w2.heap.size := ⟨_, rfl⟩
    have BB3 : Below w2.heap.size w2 w3 := by rw [hw3]; exact below_alloc _ _
    have HRC : Hid (RC W w2 D R #[.int .i64 0, .int .i64 0, .int .u64 0, .int .i64 0] w3) := keepH ⟨by rw [hw3, hD]; exact heap_alloc_new _ _, heap_below HX2.out BB3, below_chain HB2.out BB3, BB3, by omega, HB2.out.size, HLR.out, by rw [hD]; have := (Array.getElem?_eq_some_iff.1 HX2.out).1; omega⟩
    have HCC : Hid (∀ w, Below w2.heap.size w2 w → w.cell? ⟨sb, 1, none⟩ = some (.string s1) ∧ w.cell? ⟨sb, 2, none⟩ = some (.string s2) ∧ w.cell? ⟨sb, 3, none⟩ = some (.string s3) ∧ w.cell? ⟨sb, 4, none⟩ = some (.string s4)) := keepH (fun w hb => ⟨cell_below c1 hb, cell_below c2 hb, cell_below c3 hb, cell_below c4 hb⟩)
    have HW3 := keepH hw3
    have HD := keepH hD
    clear h4 hl1 hl2 hl3 hl5 ha1 ha2 ha3 ha4 c1 c2 c3 c4 hs1 hs2 hs3 hs4 hw3 hD BB3
    go_upto_region 5 with fail
    rw [← HW3.out, ← HD.out]
    clear HW3 HD
    obtain ⟨g1, g2, g3, g4⟩ := HCC.out w3 HRC.out.b2
    have d0 : w3.cell? ⟨D, 0, none⟩ = _ := cell_of HRC.out.bx 0
    have HQ := keepH (HA1.out w3 HRC.out.bel)
    go_upto_region 6 with (first | (go_at_call 81; refine HQ.out.mono ?_; rintro e v1 ⟨v3, rfl, ⟨a1, px, rfl, hxr, hxz⟩, B3⟩; have HI1 := keepH hxr; have HZ1 := keepH hxz; have HRV := keepH (HRC.out.on B3); have hd : v1.cell? ⟨D, 0, none⟩ = _ := cell_of HRV.out.bx 0; have hf := free_of HRV.out.bx 0; clear hxr hxz B3) | fail)
    have HR4 : Hid (RC W w2 D R #[.int .i64 a1, .int .i64 0, .int .u64 0, .int .i64 0] (v1.setCell ⟨D, 0, none⟩ (.int .i64 a1))) := keepH (HRV.out.set 0 _)
    obtain ⟨w4, hw4⟩ : ∃ w4, w4 = v1.setCell ⟨D, 0, none⟩ (.int .i64 a1) := ⟨_, rfl⟩
    rw [← hw4] at HR4 ⊢
    clear hw4 HQ HRV hd hf d0 g1 g2 g3 g4
    obtain ⟨g1, g2, g3, g4⟩ := HCC.out w4 HR4.out.b2
    have d1 : w4.cell? ⟨D, 1, none⟩ = _ := cell_of HR4.out.bx 1
    have HQ := keepH (HA2.out w4 HR4.out.bel)
    go_upto_region 7 with (first | (go_at_call 81; refine HQ.out.mono ?_; rintro e v2 ⟨v3, rfl, ⟨a2, px, rfl, hxr, hxz⟩, B3⟩; have HI2 := keepH hxr; have HZ2 := keepH hxz; have HRV := keepH (HR4.out.on B3); have hd : v2.cell? ⟨D, 1, none⟩ = _ := cell_of HRV.out.bx 1; have hf := free_of HRV.out.bx 1; clear hxr hxz B3) | fail)
    have HR5 : Hid (RC W w2 D R #[.int .i64 a1, .int .i64 a2, .int .u64 0, .int .i64 0] (v2.setCell ⟨D, 1, none⟩ (.int .i64 a2))) := keepH (HRV.out.set 1 _)
    obtain ⟨w5, hw5⟩ : ∃ w5, w5 = v2.setCell ⟨D, 1, none⟩ (.int .i64 a2) := ⟨_, rfl⟩
    rw [← hw5] at HR5 ⊢
    clear hw5 HQ HRV hd hf d1 g1 g2 g3 g4
    obtain ⟨g1, g2, g3, g4⟩ := HCC.out w5 HR5.out.b2
    have d2 : w5.cell? ⟨D, 2, none⟩ = _ := cell_of HR5.out.bx 2
    have HQ := keepH (HA3.out w5 HR5.out.bel)
    go_upto_region 8 with (first | (go_at_call 80; refine HQ.out.mono ?_; rintro e v3 ⟨v3, rfl, ⟨a3, rfl, hu, hz⟩, B3⟩; have HI3 := keepH hu; have HZ3 := keepH hz; have HRV := keepH (HR5.out.on B3); have hd : v3.cell? ⟨D, 2, none⟩ = _ := cell_of HRV.out.bx 2; have hf := free_of HRV.out.bx 2; clear hu hz B3) | fail)
    have HR6 : Hid (RC W w2 D R #[.int .i64 a1, .int .i64 a2, .int .u64 ((a3 : Nat) : Int), .int .i64 0] (v3.setCell ⟨D, 2, none⟩ (.int .u64 ((a3 : Nat) : Int)))) := keepH (HRV.out.set 2 _)
    obtain ⟨w6, hw6⟩ : ∃ w6, w6 = v3.setCell ⟨D, 2, none⟩ (.int .u64 ((a3 : Nat) : Int)) := ⟨_, rfl⟩
    rw [← hw6] at HR6 ⊢
    clear hw6 HQ HRV hd hf d2 g1 g2 g3 g4
    obtain ⟨g1, g2, g3, g4⟩ := HCC.out w6 HR6.out.b2
    have d3 : w6.cell? ⟨D, 3, none⟩ = _ := cell_of HR6.out.bx 3
    have HQ := keepH (HA4.out w6 HR6.out.bel)
    go_upto_region 9 with (first | (go_at_call 81; refine HQ.out.mono ?_; rintro e v4 ⟨v3, rfl, ⟨a4, px, rfl, hxr, hxz⟩, B3⟩; have HI4 := keepH hxr; have HZ4 := keepH hxz; have HRV := keepH (HR6.out.on B3); have hd : v4.cell? ⟨D, 3, none⟩ = _ := cell_of HRV.out.bx 3; have hf := free_of HRV.out.bx 3; clear hxr hxz B3) | fail)
    have HR7 : Hid (RC W w2 D R #[.int .i64 a1, .int .i64 a2, .int .u64 ((a3 : Nat) : Int), .int .i64 a4] (v4.setCell ⟨D, 3, none⟩ (.int .i64 a4))) := keepH (HRV.out.set 3 _)
    obtain ⟨w7, hw7⟩ : ∃ w7, w7 = v4.setCell ⟨D, 3, none⟩ (.int .i64 a4) := ⟨_, rfl⟩
    rw [← hw7] at HR7 ⊢
    clear hw7 HQ HRV hd hf d3 g1 g2 g3 g4
    have HNW := keepH (dNew_any a1 a2 a3 a4 w7)
    obtain ⟨E, hE⟩ : ∃ E, E = cfgE a1 a2 a3 a4 := ⟨_, rfl⟩
    rw [← hE] at HNW
    have HE := keepH hE
    have y0 : w7.cell? ⟨D, 0, none⟩ = _ := cell_of HR7.out.bx 0
    have y1 : w7.cell? ⟨D, 1, none⟩ = _ := cell_of HR7.out.bx 1
    have y2 : w7.cell? ⟨D, 2, none⟩ = _ := cell_of HR7.out.bx 2
    have y3 : w7.cell? ⟨D, 3, none⟩ = _ := cell_of HR7.out.bx 3
    clear hE
    go_upto_region 10 with (first | (go_at_call 49; refine HNW.out.mono ?_; rintro e w8 ⟨⟨p8, rfl⟩, B8⟩; have HR8 := keepH (HR7.out.on B8); clear B8) | fail)
    clear y0 y1 y2 y3
    have HH8 : Hid (w8.drew.heap[D]? = some (.cells #[.int .i64 a1, .int .i64 a2, .int .u64 ((a3 : Nat) : Int), .int .i64 a4] 42 (0, 0))) := keepH HR8.out.bx
    have HCF := keepH (fun w (hb : Below W.heap.size W w) => dConfig_any a1 a2 a3 a4 HI1.out HI2.out HI3.out HI4.out w (HT.out.on hb))
    obtain ⟨sx, hsx⟩ : ∃ s, s = mkS (cfT a1 a2 a3 a4) := ⟨_, rfl⟩
    rw [← hsx] at HCF
    have hq : (sx.toList == s.toList) = decide (cfT a1 a2 a3 a4 = t) := by rw [hsx, HS.out]; exact beq_mkS _ _
    obtain ⟨ok, hok⟩ : ∃ ok, ok = decide (cfT a1 a2 a3 a4 = t) := ⟨_, rfl⟩
    rw [← hok] at hq
    have HOK := keepH hok
    clear hok hsx
    by_cases h0 : E = 0
    · have qe : ((E : Int) == 0) = true := by rw [h0]; rfl
      have HCQ : Hid (CfQ t ok a1 a2 a3 a4) := keepH (cfq_of HSP.out HI1.out HI2.out HI3.out HI4.out HZ1.out HZ2.out HZ3.out HZ4.out (by rw [HOK.out, decide_eq_true_eq, ← HE.out]; exact ⟨fun h => ⟨h0, h⟩, fun h => h.2⟩))
      clear h0
      refine wp_region_held_drew (S := fun w => w.heap[D]? = some (.cells #[.int .i64 a1, .int .i64 a2, .int .u64 ((a3 : Nat) : Int), .int .i64 a4] 42 (0, 0))) (by kernel_rfl) (HH8.out) ?_
      intro hHeld
      refine wpAnyH_take (i := 0) (v := ?_) rfl (by kernel_rfl) (by kernel_rfl) (by kernel_rfl) (fun _ _ _ h => h) (Or.inl ⟨by rfl, ?_⟩) hHeld ?_
      rotate_left
      · intro w hSw
        (try dsimp only at hSw)
        have y0 := cell_of hSw 0
        have y1 := cell_of hSw 1
        have y2 := cell_of hSw 2
        have y3 := cell_of hSw 3
        go_simp
        try with_reducible rfl
      (try simp only [Act.put]); (try simp only [List.setIfInBounds_toArray]); (try simp only [List.getElem_toArray]); (repeat (first | simp only [List.getElem_cons_succ] | simp only [List.getElem_cons_zero])); (repeat (first | simp only [List.set_cons_succ] | simp only [List.set_cons_zero]))
      refine wpAnyH_take (i := 1) (v := ?_) rfl (by kernel_rfl) (by kernel_rfl) (by kernel_rfl) (fun _ _ _ h => h) (Or.inl ⟨by rfl, ?_⟩) hHeld ?_
      rotate_left
      · intro w hSw
        (try dsimp only at hSw)
        go_simp
        try with_reducible rfl
      (try simp only [Act.put]); (try simp only [List.setIfInBounds_toArray]); (try simp only [List.getElem_toArray]); (repeat (first | simp only [List.getElem_cons_succ] | simp only [List.getElem_cons_zero])); (repeat (first | simp only [List.set_cons_succ] | simp only [List.set_cons_zero]))
      refine wpAnyH_take (i := 2) (v := ?_) rfl (by kernel_rfl) (by kernel_rfl) (by kernel_rfl) (fun _ _ _ h => h) (Or.inl ⟨by rfl, ?_⟩) hHeld ?_
      rotate_left
      · intro w hSw
        (try dsimp only at hSw)
        go_simp
        try with_reducible rfl
      (try simp only [Act.put]); (try simp only [List.setIfInBounds_toArray]); (try simp only [List.getElem_toArray]); (repeat (first | simp only [List.getElem_cons_succ] | simp only [List.getElem_cons_zero])); (repeat (first | simp only [List.set_cons_succ] | simp only [List.set_cons_zero]))
      refine wpAnyH_take (i := 3) (v := ?_) rfl (by kernel_rfl) (by kernel_rfl) (by kernel_rfl) (fun _ _ _ h => h) (Or.inl ⟨by rfl, ?_⟩) hHeld ?_
      rotate_left
      · intro w hSw
        (try dsimp only at hSw)
        go_simp
        try with_reducible rfl
      (try simp only [Act.put]); (try simp only [List.setIfInBounds_toArray]); (try simp only [List.getElem_toArray]); (repeat (first | simp only [List.getElem_cons_succ] | simp only [List.getElem_cons_zero])); (repeat (first | simp only [List.set_cons_succ] | simp only [List.set_cons_zero]))
      refine wpAnyH_take (i := 4) (v := ?_) rfl (by kernel_rfl) (by kernel_rfl) (by kernel_rfl) (fun _ _ _ h => h) (Or.inl ⟨by rfl, ?_⟩) hHeld ?_
      rotate_left
      · intro w hSw
        (try dsimp only at hSw)
        have y0 := cell_of hSw 0
        have y1 := cell_of hSw 1
        have y2 := cell_of hSw 2
        have y3 := cell_of hSw 3
        go_simp
        try with_reducible rfl
      (try simp only [Act.put]); (try simp only [List.setIfInBounds_toArray]); (try simp only [List.getElem_toArray]); (repeat (first | simp only [List.getElem_cons_succ] | simp only [List.getElem_cons_zero])); (repeat (first | simp only [List.set_cons_succ] | simp only [List.set_cons_zero]))
      refine wpAnyH_take (i := 6) (v := ?_) rfl (by kernel_rfl) (by kernel_rfl) (by kernel_rfl) (fun _ _ _ h => h) (Or.inl ⟨by rfl, ?_⟩) hHeld ?_
      rotate_left
      · intro w hSw
        (try dsimp only at hSw)
        go_simp
        try with_reducible rfl
      (try simp only [Act.put]); (try simp only [List.setIfInBounds_toArray]); (try simp only [List.getElem_toArray]); (repeat (first | simp only [List.getElem_cons_succ] | simp only [List.getElem_cons_zero])); (repeat (first | simp only [List.set_cons_succ] | simp only [List.set_cons_zero]))
      refine wpAnyH_ready (rs := [5]) (by kernel_rfl) (by simp) ?_
      refine AllReadyH.cons rfl (fun KK hKK => ?_) AllReadyH.nil
      go_simp
      refine (HCF.out _ (below_drewN HR8.out.bel 1)).mono ?_
      rintro e v9 ⟨rfl, D9⟩
      have HRW := keepH (HR8.out.on (below_chain (below_drewN (Below.refl _ _) 1) D9))
      clear D9
      refine hKK.out _ _ ?_ (fun hHeld => ?_)
      · exact HRW.out.bx
      clear hKK KK
      (try simp only [Act.put]); (try simp only [List.setIfInBounds_toArray]); (try simp only [List.getElem_toArray]); (repeat (first | simp only [List.getElem_cons_succ] | simp only [List.getElem_cons_zero])); (repeat (first | simp only [List.set_cons_succ] | simp only [List.set_cons_zero]))
      refine wpAnyH_take (i := 7) (v := ?_) rfl (by kernel_rfl) (by kernel_rfl) (by kernel_rfl) (fun _ _ _ h => h) (Or.inl ⟨by rfl, ?_⟩) hHeld ?_
      rotate_left
      · intro w hSw
        (try dsimp only at hSw)
        go_simp
        try with_reducible rfl
      (try simp only [Act.put]); (try simp only [List.setIfInBounds_toArray]); (try simp only [List.getElem_toArray]); (repeat (first | simp only [List.getElem_cons_succ] | simp only [List.getElem_cons_zero])); (repeat (first | simp only [List.set_cons_succ] | simp only [List.set_cons_zero]))
      refine wpAnyH_take (i := 8) (v := ?_) rfl (by kernel_rfl) (by kernel_rfl) (by kernel_rfl) (fun _ _ _ h => h) (Or.inl ⟨by rfl, ?_⟩) hHeld ?_
      rotate_left
      · intro w hSw
        (try dsimp only at hSw)
        go_simp
        try with_reducible rfl
      (try simp only [Act.put]); (try simp only [List.setIfInBounds_toArray]); (try simp only [List.getElem_toArray]); (repeat (first | simp only [List.getElem_cons_succ] | simp only [List.getElem_cons_zero])); (repeat (first | simp only [List.set_cons_succ] | simp only [List.set_cons_zero]))
      refine wpAnyH_ready (rs := [9]) (by kernel_rfl) (by simp) ?_
      refine AllReadyH.cons rfl (fun KK hKK => ?_) AllReadyH.nil
      refine step_store_row rfl 42 (.tmp 2) (.tmp 48) rfl R #[.int .i64 a1, .int .i64 a2, .int .u64 ((a3 : Nat) : Int), .int .i64 a4] rfl rfl 42 #[.int .i64 0, .int .i64 0, .int .u64 0, .int .i64 0] (HRW.out.rr) (by kernel_rfl) rfl (by simp [Value.oneCell']) ?_
      refine hKK.out _ _ ?_ (fun hHeld => ?_)
      · exact (HRW.out.row #[.int .i64 a1, .int .i64 a2, .int .u64 ((a3 : Nat) : Int), .int .i64 a4]).1
      clear hKK KK
      (try simp only [Act.put]); (try simp only [List.setIfInBounds_toArray]); (try simp only [List.getElem_toArray]); (repeat (first | simp only [List.getElem_cons_succ] | simp only [List.getElem_cons_zero])); (repeat (first | simp only [List.set_cons_succ] | simp only [List.set_cons_zero]))
      refine wpAnyH_take (i := 10) (v := ?_) rfl (by kernel_rfl) (by kernel_rfl) (by kernel_rfl) (fun _ _ _ h => h) (Or.inl ⟨by rfl, ?_⟩) hHeld ?_
      rotate_left
      · intro w hSw
        (try dsimp only at hSw)
        go_simp
        try with_reducible rfl
      (try simp only [Act.put]); (try simp only [List.setIfInBounds_toArray]); (try simp only [List.getElem_toArray]); (repeat (first | simp only [List.getElem_cons_succ] | simp only [List.getElem_cons_zero])); (repeat (first | simp only [List.set_cons_succ] | simp only [List.set_cons_zero]))
      refine wpAnyH_done (by kernel_rfl) ?_ _
      go_simp
      have HR9 := keepH (HRW.out.row #[.int .i64 a1, .int .i64 a2, .int .u64 ((a3 : Nat) : Int), .int .i64 a4])
      have HR9 : Hid (RE9 W R #[.int .i64 a1, .int .i64 a2, .int .u64 ((a3 : Nat) : Int), .int .i64 a4] (v9.setRow R #[.int .i64 a1, .int .i64 a2, .int .u64 ((a3 : Nat) : Int), .int .i64 a4])) := keepH ⟨HR9.out.2.1, HR9.out.2.2⟩
      clear hHeld
      have hrow := HR9.out.rr
      have e0 := cell_of hrow 0
      have e1 := cell_of hrow 1
      have e2 := cell_of hrow 2
      have e3 := cell_of hrow 3
      simp at e0 e1 e2 e3
      go_wp2_with fail
      refine bodyPost_ret (v := .tuple #[.agg #[.int .i64 a1, .int .i64 a2, .int .u64 ((a3 : Nat) : Int), .int .i64 a4], .bool ok]) (by simp [results, Tryz.results56, go_sem, e0, e1, e2, e3]) rfl ?_
      exact ⟨a1, a2, a3, a4, ok, rfl, HCQ.out, HR9.out.bel⟩
    · have qe : ((E : Int) == 0) = false := by simp; omega
      have HCQ : Hid (CfQ t false a1 a2 a3 a4) := keepH (cfq_of HSP.out HI1.out HI2.out HI3.out HI4.out HZ1.out HZ2.out HZ3.out HZ4.out ⟨fun h => by simp at h, fun h => absurd (HE.out.trans h.1) h0⟩)
      clear h0
      have HRW := keepH (HR8.out.on (below_drewN (Below.refl _ _) 1))
      refine wp_region_held_drew (S := fun w => w.heap[D]? = some (.cells #[.int .i64 a1, .int .i64 a2, .int .u64 ((a3 : Nat) : Int), .int .i64 a4] 42 (0, 0))) (by kernel_rfl) (HH8.out) ?_
      intro hHeld
      refine wpAnyH_take (i := 0) (v := ?_) rfl (by kernel_rfl) (by kernel_rfl) (by kernel_rfl) (fun _ _ _ h => h) (Or.inl ⟨by rfl, ?_⟩) hHeld ?_
      rotate_left
      · intro w hSw
        (try dsimp only at hSw)
        have y0 := cell_of hSw 0
        have y1 := cell_of hSw 1
        have y2 := cell_of hSw 2
        have y3 := cell_of hSw 3
        go_simp
        try with_reducible rfl
      (try simp only [Act.put]); (try simp only [List.setIfInBounds_toArray]); (try simp only [List.getElem_toArray]); (repeat (first | simp only [List.getElem_cons_succ] | simp only [List.getElem_cons_zero])); (repeat (first | simp only [List.set_cons_succ] | simp only [List.set_cons_zero]))
      refine wpAnyH_take (i := 1) (v := ?_) rfl (by kernel_rfl) (by kernel_rfl) (by kernel_rfl) (fun _ _ _ h => h) (Or.inl ⟨by rfl, ?_⟩) hHeld ?_
      rotate_left
      · intro w hSw
        (try dsimp only at hSw)
        go_simp
        try with_reducible rfl
      (try simp only [Act.put]); (try simp only [List.setIfInBounds_toArray]); (try simp only [List.getElem_toArray]); (repeat (first | simp only [List.getElem_cons_succ] | simp only [List.getElem_cons_zero])); (repeat (first | simp only [List.set_cons_succ] | simp only [List.set_cons_zero]))
      refine wpAnyH_take (i := 2) (v := ?_) rfl (by kernel_rfl) (by kernel_rfl) (by kernel_rfl) (fun _ _ _ h => h) (Or.inl ⟨by rfl, ?_⟩) hHeld ?_
      rotate_left
      · intro w hSw
        (try dsimp only at hSw)
        go_simp
        try with_reducible rfl
      (try simp only [Act.put]); (try simp only [List.setIfInBounds_toArray]); (try simp only [List.getElem_toArray]); (repeat (first | simp only [List.getElem_cons_succ] | simp only [List.getElem_cons_zero])); (repeat (first | simp only [List.set_cons_succ] | simp only [List.set_cons_zero]))
      refine wpAnyH_take (i := 3) (v := ?_) rfl (by kernel_rfl) (by kernel_rfl) (by kernel_rfl) (fun _ _ _ h => h) (Or.inl ⟨by rfl, ?_⟩) hHeld ?_
      rotate_left
      · intro w hSw
        (try dsimp only at hSw)
        go_simp
        try with_reducible rfl
      (try simp only [Act.put]); (try simp only [List.setIfInBounds_toArray]); (try simp only [List.getElem_toArray]); (repeat (first | simp only [List.getElem_cons_succ] | simp only [List.getElem_cons_zero])); (repeat (first | simp only [List.set_cons_succ] | simp only [List.set_cons_zero]))
      refine wpAnyH_take (i := 4) (v := undef) rfl (by kernel_rfl) (by kernel_rfl) (by kernel_rfl) (fun _ _ _ h => h) (Or.inr ⟨by kernel_rfl, rfl⟩) hHeld ?_
      (try simp only [Act.put]); (try simp only [List.setIfInBounds_toArray]); (try simp only [List.getElem_toArray]); (repeat (first | simp only [List.getElem_cons_succ] | simp only [List.getElem_cons_zero])); (repeat (first | simp only [List.set_cons_succ] | simp only [List.set_cons_zero]))
      refine wpAnyH_take (i := 5) (v := undef) rfl (by kernel_rfl) (by kernel_rfl) (by kernel_rfl) (fun _ _ _ h => h) (Or.inr ⟨by kernel_rfl, rfl⟩) hHeld ?_
      (try simp only [Act.put]); (try simp only [List.setIfInBounds_toArray]); (try simp only [List.getElem_toArray]); (repeat (first | simp only [List.getElem_cons_succ] | simp only [List.getElem_cons_zero])); (repeat (first | simp only [List.set_cons_succ] | simp only [List.set_cons_zero]))
      refine wpAnyH_take (i := 6) (v := undef) rfl (by kernel_rfl) (by kernel_rfl) (by kernel_rfl) (fun _ _ _ h => h) (Or.inr ⟨by kernel_rfl, rfl⟩) hHeld ?_
      (try simp only [Act.put]); (try simp only [List.setIfInBounds_toArray]); (try simp only [List.getElem_toArray]); (repeat (first | simp only [List.getElem_cons_succ] | simp only [List.getElem_cons_zero])); (repeat (first | simp only [List.set_cons_succ] | simp only [List.set_cons_zero]))
      refine wpAnyH_take (i := 7) (v := undef) rfl (by kernel_rfl) (by kernel_rfl) (by kernel_rfl) (fun _ _ _ h => h) (Or.inr ⟨by kernel_rfl, rfl⟩) hHeld ?_
      (try simp only [Act.put]); (try simp only [List.setIfInBounds_toArray]); (try simp only [List.getElem_toArray]); (repeat (first | simp only [List.getElem_cons_succ] | simp only [List.getElem_cons_zero])); (repeat (first | simp only [List.set_cons_succ] | simp only [List.set_cons_zero]))
      refine wpAnyH_take (i := 8) (v := ?_) rfl (by kernel_rfl) (by kernel_rfl) (by kernel_rfl) (fun _ _ _ h => h) (Or.inl ⟨by rfl, ?_⟩) hHeld ?_
      rotate_left
      · intro w hSw
        (try dsimp only at hSw)
        go_simp
        try with_reducible rfl
      (try simp only [Act.put]); (try simp only [List.setIfInBounds_toArray]); (try simp only [List.getElem_toArray]); (repeat (first | simp only [List.getElem_cons_succ] | simp only [List.getElem_cons_zero])); (repeat (first | simp only [List.set_cons_succ] | simp only [List.set_cons_zero]))
      refine wpAnyH_ready (rs := [9]) (by kernel_rfl) (by simp) ?_
      refine AllReadyH.cons rfl (fun KK hKK => ?_) AllReadyH.nil
      refine step_store_row rfl 42 (.tmp 2) (.tmp 48) rfl R #[.int .i64 a1, .int .i64 a2, .int .u64 ((a3 : Nat) : Int), .int .i64 a4] rfl rfl 42 #[.int .i64 0, .int .i64 0, .int .u64 0, .int .i64 0] (HRW.out.rr) (by kernel_rfl) rfl (by simp [Value.oneCell']) ?_
      refine hKK.out _ _ ?_ (fun hHeld => ?_)
      · exact (HRW.out.row #[.int .i64 a1, .int .i64 a2, .int .u64 ((a3 : Nat) : Int), .int .i64 a4]).1
      clear hKK KK
      (try simp only [Act.put]); (try simp only [List.setIfInBounds_toArray]); (try simp only [List.getElem_toArray]); (repeat (first | simp only [List.getElem_cons_succ] | simp only [List.getElem_cons_zero])); (repeat (first | simp only [List.set_cons_succ] | simp only [List.set_cons_zero]))
      refine wpAnyH_take (i := 10) (v := ?_) rfl (by kernel_rfl) (by kernel_rfl) (by kernel_rfl) (fun _ _ _ h => h) (Or.inl ⟨by rfl, ?_⟩) hHeld ?_
      rotate_left
      · intro w hSw
        (try dsimp only at hSw)
        go_simp
        try with_reducible rfl
      (try simp only [Act.put]); (try simp only [List.setIfInBounds_toArray]); (try simp only [List.getElem_toArray]); (repeat (first | simp only [List.getElem_cons_succ] | simp only [List.getElem_cons_zero])); (repeat (first | simp only [List.set_cons_succ] | simp only [List.set_cons_zero]))
      refine wpAnyH_done (by kernel_rfl) ?_ _
      go_simp
      have HR9 : Hid (RE9 W R #[.int .i64 a1, .int .i64 a2, .int .u64 ((a3 : Nat) : Int), .int .i64 a4] (w8.drew.setRow R #[.int .i64 a1, .int .i64 a2, .int .u64 ((a3 : Nat) : Int), .int .i64 a4])) := keepH ⟨(HRW.out.row #[.int .i64 a1, .int .i64 a2, .int .u64 ((a3 : Nat) : Int), .int .i64 a4]).2.1, (HRW.out.row #[.int .i64 a1, .int .i64 a2, .int .u64 ((a3 : Nat) : Int), .int .i64 a4]).2.2⟩
      clear hHeld
      have hrow := HR9.out.rr
      have e0 := cell_of hrow 0
      have e1 := cell_of hrow 1
      have e2 := cell_of hrow 2
      have e3 := cell_of hrow 3
      simp at e0 e1 e2 e3
      go_wp2_with fail
      refine bodyPost_ret (v := .tuple #[.agg #[.int .i64 a1, .int .i64 a2, .int .u64 ((a3 : Nat) : Int), .int .i64 a4], .bool false]) (by simp [results, Tryz.results56, go_sem, e0, e1, e2, e3]) rfl ?_
      exact ⟨a1, a2, a3, a4, false, rfl, HCQ.out, HR9.out.bel⟩
  · have q1 : ((N : Int) != 5) = true := by simp; omega
    have HCQ := keepH (cfq_no HSP.out (by have := HM.out; have := HN.out; omega))
    clear h4
    go_wp2_with (first | (refine wpList_store_row rfl 42 _ _ rfl R #[.int .i64 0, .int .i64 0, .int .u64 0, .int .i64 0] rfl rfl 42 #[.int .i64 0, .int .i64 0, .int .u64 0, .int .i64 0] HX2.out (by kernel_rfl) rfl (by simp [Value.oneCell']) ?_) | fail)
    have hrow := setRow_heap _ R _ #[.int .i64 0, .int .i64 0, .int .u64 0, .int .i64 0] 42 (0, 0) HX2.out
    have e0 := cell_of hrow 0
    have e1 := cell_of hrow 1
    have e2 := cell_of hrow 2
    have e3 := cell_of hrow 3
    simp at e0 e1 e2 e3
    refine bodyPost_ret (v := .tuple #[.agg #[.int .i64 0, .int .i64 0, .int .u64 0, .int .i64 0], .bool false]) (by simp [results, Tryz.results56, go_sem, e0, e1, e2, e3]) rfl ?_
    exact ⟨0, 0, 0, 0, false, rfl, HCQ.out, below_setRow HB2.out HLR.out _⟩
end Go.Proofs.YtmmaniolaljjlaaGreatDoor
