/- Two scripts that are the same, by the document. (mkSer.py) -/
import Derived.Test.YtmmaniolaljjlaaGreatDoorG12Sct
import Derived.Test.YtmmaniolaljjlaaGreatDoorG17Scx
import Derived.Deep.RegionHeld
import Derived.BigQuiet
import Derived.Test.YtmmaniolaljjlaaGreatDoorG11Scm
import Derived.Maps.AppendAt
import Derived.Test.YtmmaniolaljjlaaGreatDoorG4RMemV
namespace Go.Proofs.YtmmaniolaljjlaaGreatDoor
open Go.RowKit Go.Joins Go.Shelf
set_option linter.unusedVariables false

theorem wf_u64 {n : Nat} (h : isU n) : (Lit.int .u64 (n : Int)).wf = true := by
  have e1 : IntKind.u64.min = 0 := by decide
  have e2 : IntKind.u64.max = 18446744073709551615 := by decide
  unfold isU at h
  simp [Lit.wf, e1, e2]
  omega
theorem trod_u (n : Nat) (h : isU n) (w : World) : ∃ m, DataW.trod (H := Unit) (fun _ => ()) Tryz.prog w 0 (fun _ => true) true m 23 [.int .u64 (n : Int)] = some (.lit (.int .u64 (n : Int)), []) :=
  ⟨1, by simp [DataW.trod, Tryz.underlying23, wf_u64 h]⟩
theorem cfg_key (ce sl : Int) (stp : Nat) (mu : Int) (h1 : isI ce) (h2 : isI sl) (h3 : isU stp) (h4 : isI mu) (w : World) : ∃ l, keyOf Tryz.prog 42 (.agg #[.int .i64 ce, .int .i64 sl, .int .u64 (stp : Int), .int .i64 mu]) = some l := by
  have t := shut_agg4 (enc := fun _ => ()) (P := Tryz.prog) (w := w) (base := 0) (spare := fun _ => true) (held := true) Tryz.underlying42 (by kernel_rfl) (by kernel_rfl) (trod_i ce h1 w) (trod_i sl h2 w) (trod_u stp h3 w) (trod_i mu h4 w)
  exact ⟨_, (keyOf_asKey (by kernel_rfl) (by kernel_rfl) (by kernel_rfl) t).1⟩
set_option maxRecDepth 100000 in
theorem cfg_neq (ce sl : Int) (stp : Nat) (mu : Int) (h1 : isI ce) (h2 : isI sl) (h3 : isU stp) (h4 : isI mu) (w : World) : (binOp .neq 42 (.agg #[.int .i64 ce, .int .i64 sl, .int .u64 (stp : Int), .int .i64 mu]) (.agg #[.int .i64 ce, .int .i64 sl, .int .u64 (stp : Int), .int .i64 mu])).run Tryz.prog w = .ok (.bool false) w := by
  obtain ⟨l, hl⟩ := cfg_key ce sl stp mu h1 h2 h3 h4 w
  obtain ⟨r, hr, hi⟩ := run_equal_deep (P := Tryz.prog) w (m := 3) (by omega) (by kernel_rfl) (by kernel_rfl) hl hl
  have hr1 : r = true := hi.2 rfl
  subst hr1
  simp only [binOp, go_sem]
  simp [hr, Result.andThen]
set_option maxRecDepth 100000 in
set_option maxHeartbeats 8000000 in
theorem dSame_any (ce sl : Int) (stp : Nat) (mu : Int) (h1 : isI ce) (h2 : isI sl) (h3 : isU stp) (h4 : isI mu) (tp tp' : Option Addr) (tc tc' : Nat) (pp pp' : Option Addr) (pc pc' : Nat) (ts : List (List Opx)) (ps : List Int) (hS : SOk ts ps) (W : World) (hT : TRd W tp ts) (hT' : TRd W tp' ts) (hP : IRd W pp ps) (hP' : IRd W pp' ps) :
    Calls Tryz.prog 20 #[.agg (scR ce sl stp mu (.slice tp ts.length tc) (.slice pp ps.length pc)), .agg (scR ce sl stp mu (.slice tp' ts.length tc') (.slice pp' ps.length pc'))] W fun e W' => e = .returned (.bool true) ∧ Below W.heap.size W W' := by
  have hcn := fun w => cfg_neq ce sl stp mu h1 h2 h3 h4 w
  obtain ⟨n, hn⟩ : ∃ n, n = ts.length := ⟨_, rfl⟩
  obtain ⟨m, hm⟩ : ∃ m, m = ps.length := ⟨_, rfl⟩
  have hn1 := hS.tl
  have hm1 := hS.pl
  rw [← hn] at hn1
  rw [← hm] at hm1
  rw [← hn, ← hm]
  obtain ⟨w1, hw1⟩ : ∃ w1, w1 = (W.alloc (.cells (scR ce sl stp mu (.slice tp n tc) (.slice pp m pc)) 46)).alloc (.cells (scR ce sl stp mu (.slice tp' n tc') (.slice pp' m pc')) 46) := ⟨_, rfl⟩
  obtain ⟨P, hPP⟩ : ∃ P, P = W.heap.size := ⟨_, rfl⟩
  obtain ⟨Q, hQQ⟩ : ∃ Q, Q = W.heap.size + 1 := ⟨_, rfl⟩
  have B1 : Below W.heap.size W w1 := by rw [hw1]; exact (below_alloc _ _).trans ((below_alloc _ _).mono (by simp))
  have X1 : w1.heap[P]? = some (.cells (scR ce sl stp mu (.slice tp n tc) (.slice pp m pc)) 46 (0, 0)) := by
    rw [hw1, hPP, Below.heap_alloc _ _ _ (by simp)]
    exact heap_alloc_new _ _
  have Y1 : w1.heap[Q]? = some (.cells (scR ce sl stp mu (.slice tp' n tc') (.slice pp' m pc')) 46 (0, 0)) := by
    rw [hw1, hQQ]
    have := heap_alloc_new (W.alloc (.cells (scR ce sl stp mu (.slice tp n tc) (.slice pp m pc)) 46)) (.cells (scR ce sl stp mu (.slice tp' n tc') (.slice pp' m pc')) 46)
    simpa using this
  have HP4 : Hid (∀ w, Below w1.heap.size w1 w → w.cell? ⟨P, 4, none⟩ = some (.slice tp n tc)) := keepH (fun w hb => cell_below (cell_of X1 4) hb)
  have HQ4 : Hid (∀ w, Below w1.heap.size w1 w → w.cell? ⟨Q, 4, none⟩ = some (.slice tp' n tc')) := keepH (fun w hb => cell_below (cell_of Y1 4) hb)
  have p0 : w1.cell? ⟨P, 0, none⟩ = _ := cell_of X1 0
  have q0 : w1.cell? ⟨Q, 0, none⟩ = _ := cell_of Y1 0
  have p1 : w1.cell? ⟨P, 1, none⟩ = _ := cell_of X1 1
  have q1 : w1.cell? ⟨Q, 1, none⟩ = _ := cell_of Y1 1
  have p2 : w1.cell? ⟨P, 2, none⟩ = _ := cell_of X1 2
  have q2 : w1.cell? ⟨Q, 2, none⟩ = _ := cell_of Y1 2
  have p3 : w1.cell? ⟨P, 3, none⟩ = _ := cell_of X1 3
  have q3 : w1.cell? ⟨Q, 3, none⟩ = _ := cell_of Y1 3
  have p4 : w1.cell? ⟨P, 4, none⟩ = _ := cell_of X1 4
  have q4 : w1.cell? ⟨Q, 4, none⟩ = _ := cell_of Y1 4
  have p5 : w1.cell? ⟨P, 5, none⟩ = _ := cell_of X1 5
  have q5 : w1.cell? ⟨Q, 5, none⟩ = _ := cell_of Y1 5
  have HN := keepH hn
  have HM := keepH hm
  have HW1 := keepH hw1
  have HP := keepH hPP
  have HQ := keepH hQQ
  have HB1 := keepH B1
  have HS := keepH hS
  have HT := keepH (hT.on B1)
  have HT2 := keepH (hT'.on B1)
  have HI := keepH (hP.on B1)
  have HI2 := keepH (hP'.on B1)
  clear hn hm hw1 hPP hQQ B1 X1 Y1 hS hT hT' hP hP' h1 h2 h3 h4
  go_enter Tryz.func20, Tryz.ntmps20
  go_upto_region 1 with fail
  rw [← HW1.out, ← HQ.out, ← HP.out]
  go_wp2_with fail
  go_loopw [5] (fun s5 wr => ∃ i : Nat, i ≤ m ∧ s5 = .int .i64 (i : Int) ∧ Hid (Below w1.heap.size w1 wr)) (fun s5 _ => m - (intOf s5).toNat)
  case atStart => exact ⟨0, by omega, rfl, keepH (Below.refl _ _)⟩
  case round =>
    obtain ⟨i, hi, rfl, HBW⟩ := hrel
    have p5 : wr.cell? ⟨P, 5, none⟩ = some (.slice pp m pc) := cell_below p5 HBW.out
    have q5 : wr.cell? ⟨Q, 5, none⟩ = some (.slice pp' m pc') := cell_below q5 HBW.out
    clear p0 p1 p2 p3 p4 q0 q1 q2 q3 q4
    by_cases hlt : i < m
    · have r1 : (i : Int) < (m : Int) := by omega
      have r0 : (0 : Int) ≤ (i : Int) := by omega
      have r1n : i < m := hlt
      obtain ⟨x, hx⟩ : ∃ x, ps[i]? = some x := ⟨ps[i]'(by have := HM.out; omega), List.getElem?_eq_getElem _⟩
      obtain ⟨bk, off, rfl, hbk, c0⟩ := (HI.out.on HBW.out).get i x hx
      obtain ⟨bk2, off2, rfl, hbk2, c1⟩ := (HI2.out.on HBW.out).get i x hx
      have qx : (x != x) = false := by simp
      clear hx hbk hbk2
      go_upto_region 6 with fail
      go_quiet (fail)
      go_wp2_with fail
      go_roundw
      case rel => exact ⟨i + 1, by omega, by first | rfl | go_num, keepH (below_drewN HBW.out _)⟩
      case measure => simp [intOf]; omega
    · obtain rfl : i = m := by omega
      have r1 : ¬ (i : Int) < (i : Int) := by omega
      clear q5
      go_wp2_with fail
      clear p5
      go_loopw [6, 7] (fun s6 s7 wr => ∃ i : Nat, i ≤ n ∧ s6 = .int .i64 (i : Int) ∧ Hid (Below w1.heap.size w1 wr)) (fun s6 _ _ => n - (intOf s6).toNat)
      case atStart => exact ⟨0, by omega, rfl, HBW⟩
      case round =>
        clear HBW
        obtain ⟨i, hi, rfl, HBW⟩ := hrel
        have p4 := HP4.out wr HBW.out
        have q4 := HQ4.out wr HBW.out
        by_cases hlt : i < n
        · have r1 : (i : Int) < (n : Int) := by omega
          have r1n : i < n := hlt
          have r0 : (0 : Int) ≤ (i : Int) := by omega
          obtain ⟨l, hl⟩ : ∃ l, ts[i]? = some l := ⟨ts[i]'(by have := HN.out; omega), List.getElem?_eq_getElem _⟩
          obtain ⟨bk, off, lp, lc, rfl, hbk, hO, c0⟩ := (HT.out.on HBW.out).get i l hl
          obtain ⟨bk2, off2, lp2, lc2, rfl, hbk2, hO2, c1⟩ := (HT2.out.on HBW.out).get i l hl
          obtain ⟨k, hk⟩ : ∃ k, k = l.length := ⟨_, rfl⟩
          have hk1 := HS.out.ll l (List.mem_of_getElem? hl)
          rw [← hk] at c0 c1 hk1
          have qk : ((k : Int) != (k : Int)) = false := by simp
          have HX := keepH hl
          have HK := keepH hk
          have HO := keepH hO
          have HO2 := keepH hO2
          obtain ⟨wo, hwo⟩ : ∃ wo, wo = wr := ⟨_, rfl⟩
          subst hwo
          have HC0 : Hid (∀ w, Below wo.heap.size wo w → w.cell? ⟨bk, off + i, none⟩ = some (.slice lp k lc)) := keepH (fun w hb => cell_below c0 hb)
          have HC1 : Hid (∀ w, Below wo.heap.size wo w → w.cell? ⟨bk2, off2 + i, none⟩ = some (.slice lp2 k lc2)) := keepH (fun w hb => cell_below c1 hb)
          clear hl hk hbk hO hbk2 hO2
          go_upto_region 11 with fail
          go_quiet (fail)
          go_wp2_with fail
          go_loopw [7] (fun s7 wr => ∃ j : Nat, j ≤ k ∧ s7 = .int .i64 (j : Int) ∧ Hid (Below wo.heap.size wo wr)) (fun s7 _ => k - (intOf s7).toNat)
          case atStart => exact ⟨0, by omega, rfl, keepH (below_drewN (Below.refl _ _) _)⟩
          case round =>
            clear p4 q4 c0 c1
            obtain ⟨j, hj, rfl, HBX⟩ := hrel
            have p4 := HP4.out wr (below_chain HBW.out HBX.out)
            have c0 := HC0.out wr HBX.out
            by_cases hlj : j < k
            · have s1 : (j : Int) < (k : Int) := by omega
              have s0 : (0 : Int) ≤ (j : Int) := by omega
              have s1n : j < k := hlj
              obtain ⟨o, ho⟩ : ∃ o, l[j]? = some o := ⟨l[j]'(by have := HK.out; omega), List.getElem?_eq_getElem _⟩
              obtain ⟨xb, xo, kp, kc, rfl, hxb, hKR, a0, a1, a2, a3, a4, a5, a6, a7, a8, a9, a10⟩ := (HO.out.on HBX.out).get j o ho
              obtain ⟨yb, yo, kp2, kc2, rfl, hyb, hKR2, b0, b1, b2, b3, b4, b5, b6, b7, b8, b9, b10⟩ := (HO2.out.on HBX.out).get j o ho
              have hoo := HS.out.ok l (List.mem_of_getElem? HX.out) o (List.mem_of_getElem? ho)
              obtain ⟨ok, key, val, old, hnd, set, rt, ri, keys, lo, hi2⟩ := o
              simp only at a0 a1 a2 a3 a4 a5 a6 a7 a8 a9 a10 b0 b1 b2 b3 b4 b5 b6 b7 b8 b9 b10 hKR hKR2
              have hso := fun w (hb : Below wr.heap.size wr w) => sameOp_any ok key val old hnd set rt ri kp kp2 kc kc2 lo hi2 keys hoo.1.rt hoo.1.ri hoo.2 w (hKR.on hb) (hKR2.on hb)
              obtain ⟨nk, hnk⟩ : ∃ nk, nk = keys.length := ⟨_, rfl⟩
              rw [← hnk] at a8 b8 hso
              have hall : (fun w => (w.cell? ⟨P, 4, none⟩ = some (.slice (some ⟨bk, off, none⟩) n tc) ∧ w.cell? ⟨bk, off + i, none⟩ = some (.slice (some ⟨xb, xo, none⟩) k lc)) ∧ (w.cell? ⟨Q, 4, none⟩ = some (.slice (some ⟨bk2, off2, none⟩) n tc') ∧ w.cell? ⟨bk2, off2 + i, none⟩ = some (.slice (some ⟨yb, yo, none⟩) k lc2)) ∧ (w.cell? ⟨xb, xo + j * 11, none⟩ = some (.int .u8 (ok : Int)) ∧ w.cell? ⟨xb, xo + j * 11 + 1, none⟩ = some (.int .u64 (key : Int)) ∧ w.cell? ⟨xb, xo + j * 11 + 2, none⟩ = some (.int .u64 (val : Int)) ∧ w.cell? ⟨xb, xo + j * 11 + 3, none⟩ = some (.int .u64 (old : Int)) ∧ w.cell? ⟨xb, xo + j * 11 + 4, none⟩ = some (.int .u64 (hnd : Int)) ∧ w.cell? ⟨xb, xo + j * 11 + 5, none⟩ = some (.bool set) ∧ w.cell? ⟨xb, xo + j * 11 + 6, none⟩ = some (.int .i64 rt) ∧ w.cell? ⟨xb, xo + j * 11 + 7, none⟩ = some (.int .i64 ri) ∧ w.cell? ⟨xb, xo + j * 11 + 8, none⟩ = some (.slice kp nk kc) ∧ w.cell? ⟨xb, xo + j * 11 + 9, none⟩ = some (.int .u64 (lo : Int)) ∧ w.cell? ⟨xb, xo + j * 11 + 10, none⟩ = some (.int .u64 (hi2 : Int))) ∧ (w.cell? ⟨yb, yo + j * 11, none⟩ = some (.int .u8 (ok : Int)) ∧ w.cell? ⟨yb, yo + j * 11 + 1, none⟩ = some (.int .u64 (key : Int)) ∧ w.cell? ⟨yb, yo + j * 11 + 2, none⟩ = some (.int .u64 (val : Int)) ∧ w.cell? ⟨yb, yo + j * 11 + 3, none⟩ = some (.int .u64 (old : Int)) ∧ w.cell? ⟨yb, yo + j * 11 + 4, none⟩ = some (.int .u64 (hnd : Int)) ∧ w.cell? ⟨yb, yo + j * 11 + 5, none⟩ = some (.bool set) ∧ w.cell? ⟨yb, yo + j * 11 + 6, none⟩ = some (.int .i64 rt) ∧ w.cell? ⟨yb, yo + j * 11 + 7, none⟩ = some (.int .i64 ri) ∧ w.cell? ⟨yb, yo + j * 11 + 8, none⟩ = some (.slice kp2 nk kc2) ∧ w.cell? ⟨yb, yo + j * 11 + 9, none⟩ = some (.int .u64 (lo : Int)) ∧ w.cell? ⟨yb, yo + j * 11 + 10, none⟩ = some (.int .u64 (hi2 : Int)))) wr := ⟨⟨p4, c0⟩, ⟨HQ4.out wr (below_chain HBW.out HBX.out), HC1.out wr HBX.out⟩, ⟨a0, a1, a2, a3, a4, a5, a6, a7, a8, a9, a10⟩, ⟨b0, b1, b2, b3, b4, b5, b6, b7, b8, b9, b10⟩⟩
              have HK0 : Hid ((fun w => (w.cell? ⟨P, 4, none⟩ = some (.slice (some ⟨bk, off, none⟩) n tc) ∧ w.cell? ⟨bk, off + i, none⟩ = some (.slice (some ⟨xb, xo, none⟩) k lc)) ∧ (w.cell? ⟨Q, 4, none⟩ = some (.slice (some ⟨bk2, off2, none⟩) n tc') ∧ w.cell? ⟨bk2, off2 + i, none⟩ = some (.slice (some ⟨yb, yo, none⟩) k lc2)) ∧ (w.cell? ⟨xb, xo + j * 11, none⟩ = some (.int .u8 (ok : Int)) ∧ w.cell? ⟨xb, xo + j * 11 + 1, none⟩ = some (.int .u64 (key : Int)) ∧ w.cell? ⟨xb, xo + j * 11 + 2, none⟩ = some (.int .u64 (val : Int)) ∧ w.cell? ⟨xb, xo + j * 11 + 3, none⟩ = some (.int .u64 (old : Int)) ∧ w.cell? ⟨xb, xo + j * 11 + 4, none⟩ = some (.int .u64 (hnd : Int)) ∧ w.cell? ⟨xb, xo + j * 11 + 5, none⟩ = some (.bool set) ∧ w.cell? ⟨xb, xo + j * 11 + 6, none⟩ = some (.int .i64 rt) ∧ w.cell? ⟨xb, xo + j * 11 + 7, none⟩ = some (.int .i64 ri) ∧ w.cell? ⟨xb, xo + j * 11 + 8, none⟩ = some (.slice kp nk kc) ∧ w.cell? ⟨xb, xo + j * 11 + 9, none⟩ = some (.int .u64 (lo : Int)) ∧ w.cell? ⟨xb, xo + j * 11 + 10, none⟩ = some (.int .u64 (hi2 : Int))) ∧ (w.cell? ⟨yb, yo + j * 11, none⟩ = some (.int .u8 (ok : Int)) ∧ w.cell? ⟨yb, yo + j * 11 + 1, none⟩ = some (.int .u64 (key : Int)) ∧ w.cell? ⟨yb, yo + j * 11 + 2, none⟩ = some (.int .u64 (val : Int)) ∧ w.cell? ⟨yb, yo + j * 11 + 3, none⟩ = some (.int .u64 (old : Int)) ∧ w.cell? ⟨yb, yo + j * 11 + 4, none⟩ = some (.int .u64 (hnd : Int)) ∧ w.cell? ⟨yb, yo + j * 11 + 5, none⟩ = some (.bool set) ∧ w.cell? ⟨yb, yo + j * 11 + 6, none⟩ = some (.int .i64 rt) ∧ w.cell? ⟨yb, yo + j * 11 + 7, none⟩ = some (.int .i64 ri) ∧ w.cell? ⟨yb, yo + j * 11 + 8, none⟩ = some (.slice kp2 nk kc2) ∧ w.cell? ⟨yb, yo + j * 11 + 9, none⟩ = some (.int .u64 (lo : Int)) ∧ w.cell? ⟨yb, yo + j * 11 + 10, none⟩ = some (.int .u64 (hi2 : Int)))) wr.drew) := keepH hall
              have HKE : Hid (∀ w, Below wr.heap.size wr w → (fun w => (w.cell? ⟨P, 4, none⟩ = some (.slice (some ⟨bk, off, none⟩) n tc) ∧ w.cell? ⟨bk, off + i, none⟩ = some (.slice (some ⟨xb, xo, none⟩) k lc)) ∧ (w.cell? ⟨Q, 4, none⟩ = some (.slice (some ⟨bk2, off2, none⟩) n tc') ∧ w.cell? ⟨bk2, off2 + i, none⟩ = some (.slice (some ⟨yb, yo, none⟩) k lc2)) ∧ (w.cell? ⟨xb, xo + j * 11, none⟩ = some (.int .u8 (ok : Int)) ∧ w.cell? ⟨xb, xo + j * 11 + 1, none⟩ = some (.int .u64 (key : Int)) ∧ w.cell? ⟨xb, xo + j * 11 + 2, none⟩ = some (.int .u64 (val : Int)) ∧ w.cell? ⟨xb, xo + j * 11 + 3, none⟩ = some (.int .u64 (old : Int)) ∧ w.cell? ⟨xb, xo + j * 11 + 4, none⟩ = some (.int .u64 (hnd : Int)) ∧ w.cell? ⟨xb, xo + j * 11 + 5, none⟩ = some (.bool set) ∧ w.cell? ⟨xb, xo + j * 11 + 6, none⟩ = some (.int .i64 rt) ∧ w.cell? ⟨xb, xo + j * 11 + 7, none⟩ = some (.int .i64 ri) ∧ w.cell? ⟨xb, xo + j * 11 + 8, none⟩ = some (.slice kp nk kc) ∧ w.cell? ⟨xb, xo + j * 11 + 9, none⟩ = some (.int .u64 (lo : Int)) ∧ w.cell? ⟨xb, xo + j * 11 + 10, none⟩ = some (.int .u64 (hi2 : Int))) ∧ (w.cell? ⟨yb, yo + j * 11, none⟩ = some (.int .u8 (ok : Int)) ∧ w.cell? ⟨yb, yo + j * 11 + 1, none⟩ = some (.int .u64 (key : Int)) ∧ w.cell? ⟨yb, yo + j * 11 + 2, none⟩ = some (.int .u64 (val : Int)) ∧ w.cell? ⟨yb, yo + j * 11 + 3, none⟩ = some (.int .u64 (old : Int)) ∧ w.cell? ⟨yb, yo + j * 11 + 4, none⟩ = some (.int .u64 (hnd : Int)) ∧ w.cell? ⟨yb, yo + j * 11 + 5, none⟩ = some (.bool set) ∧ w.cell? ⟨yb, yo + j * 11 + 6, none⟩ = some (.int .i64 rt) ∧ w.cell? ⟨yb, yo + j * 11 + 7, none⟩ = some (.int .i64 ri) ∧ w.cell? ⟨yb, yo + j * 11 + 8, none⟩ = some (.slice kp2 nk kc2) ∧ w.cell? ⟨yb, yo + j * 11 + 9, none⟩ = some (.int .u64 (lo : Int)) ∧ w.cell? ⟨yb, yo + j * 11 + 10, none⟩ = some (.int .u64 (hi2 : Int)))) w) := keepH (fun w hb => by
                obtain ⟨⟨x1, x2⟩, ⟨x3, x4⟩, ⟨z0, z1, z2, z3, z4, z5, z6, z7, z8, z9, z10⟩, ⟨y0, y1, y2, y3, y4, y5, y6, y7, y8, y9, y10⟩⟩ := hall
                exact ⟨⟨cell_below x1 hb, cell_below x2 hb⟩, ⟨cell_below x3 hb, cell_below x4 hb⟩, ⟨cell_below z0 hb, cell_below z1 hb, cell_below z2 hb, cell_below z3 hb, cell_below z4 hb, cell_below z5 hb, cell_below z6 hb, cell_below z7 hb, cell_below z8 hb, cell_below z9 hb, cell_below z10 hb⟩, ⟨cell_below y0 hb, cell_below y1 hb, cell_below y2 hb, cell_below y3 hb, cell_below y4 hb, cell_below y5 hb, cell_below y6 hb, cell_below y7 hb, cell_below y8 hb, cell_below y9 hb, cell_below y10 hb⟩⟩)
              have HSO := keepH hso
              obtain ⟨wx, hwx⟩ : ∃ wx, wx = wr := ⟨_, rfl⟩
              subst hwx
              have HBXo := keepH HBX.out
              have HBX := keepH (Below.refl wx.heap.size wx)
              clear ho hKR hKR2 hxb hyb hnk hoo hso hall a0 a1 a2 a3 a4 a5 a6 a7 a8 a9 a10 b0 b1 b2 b3 b4 b5 b6 b7 b8 b9 b10
              go_upto_region 16 with fail
              clear p4 c0
              refine wp_region_held_drew (S := fun w => (w.cell? ⟨P, 4, none⟩ = some (.slice (some ⟨bk, off, none⟩) n tc) ∧ w.cell? ⟨bk, off + i, none⟩ = some (.slice (some ⟨xb, xo, none⟩) k lc)) ∧ (w.cell? ⟨Q, 4, none⟩ = some (.slice (some ⟨bk2, off2, none⟩) n tc') ∧ w.cell? ⟨bk2, off2 + i, none⟩ = some (.slice (some ⟨yb, yo, none⟩) k lc2)) ∧ (w.cell? ⟨xb, xo + j * 11, none⟩ = some (.int .u8 (ok : Int)) ∧ w.cell? ⟨xb, xo + j * 11 + 1, none⟩ = some (.int .u64 (key : Int)) ∧ w.cell? ⟨xb, xo + j * 11 + 2, none⟩ = some (.int .u64 (val : Int)) ∧ w.cell? ⟨xb, xo + j * 11 + 3, none⟩ = some (.int .u64 (old : Int)) ∧ w.cell? ⟨xb, xo + j * 11 + 4, none⟩ = some (.int .u64 (hnd : Int)) ∧ w.cell? ⟨xb, xo + j * 11 + 5, none⟩ = some (.bool set) ∧ w.cell? ⟨xb, xo + j * 11 + 6, none⟩ = some (.int .i64 rt) ∧ w.cell? ⟨xb, xo + j * 11 + 7, none⟩ = some (.int .i64 ri) ∧ w.cell? ⟨xb, xo + j * 11 + 8, none⟩ = some (.slice kp nk kc) ∧ w.cell? ⟨xb, xo + j * 11 + 9, none⟩ = some (.int .u64 (lo : Int)) ∧ w.cell? ⟨xb, xo + j * 11 + 10, none⟩ = some (.int .u64 (hi2 : Int))) ∧ (w.cell? ⟨yb, yo + j * 11, none⟩ = some (.int .u8 (ok : Int)) ∧ w.cell? ⟨yb, yo + j * 11 + 1, none⟩ = some (.int .u64 (key : Int)) ∧ w.cell? ⟨yb, yo + j * 11 + 2, none⟩ = some (.int .u64 (val : Int)) ∧ w.cell? ⟨yb, yo + j * 11 + 3, none⟩ = some (.int .u64 (old : Int)) ∧ w.cell? ⟨yb, yo + j * 11 + 4, none⟩ = some (.int .u64 (hnd : Int)) ∧ w.cell? ⟨yb, yo + j * 11 + 5, none⟩ = some (.bool set) ∧ w.cell? ⟨yb, yo + j * 11 + 6, none⟩ = some (.int .i64 rt) ∧ w.cell? ⟨yb, yo + j * 11 + 7, none⟩ = some (.int .i64 ri) ∧ w.cell? ⟨yb, yo + j * 11 + 8, none⟩ = some (.slice kp2 nk kc2) ∧ w.cell? ⟨yb, yo + j * 11 + 9, none⟩ = some (.int .u64 (lo : Int)) ∧ w.cell? ⟨yb, yo + j * 11 + 10, none⟩ = some (.int .u64 (hi2 : Int)))) (by kernel_rfl) (HK0.out) ?_
              intro hHeld
              refine wpAnyH_take (i := 0) (v := ?_) rfl (by kernel_rfl) (by kernel_rfl) (by kernel_rfl) (fun _ _ _ h => h) (Or.inl ⟨by rfl, ?_⟩) hHeld ?_
              rotate_left
              · intro w hSw
                (try dsimp only at hSw)
                go_simp
                try with_reducible rfl
              (try simp only [Act.put]); (try simp only [List.setIfInBounds_toArray]); (try simp only [List.getElem_toArray]); (repeat (first | simp only [List.getElem_cons_succ] | simp only [List.getElem_cons_zero])); (repeat (first | simp only [List.set_cons_succ] | simp only [List.set_cons_zero]))
              refine wpAnyH_take (i := 1) (v := ?_) rfl (by kernel_rfl) (by kernel_rfl) (by kernel_rfl) (fun _ _ _ h => h) (Or.inl ⟨by rfl, ?_⟩) hHeld ?_
              rotate_left
              · intro w hSw
                (try dsimp only at hSw)
                have y0 := hSw.1.1
                go_simp
                try with_reducible rfl
              (try simp only [Act.put]); (try simp only [List.setIfInBounds_toArray]); (try simp only [List.getElem_toArray]); (repeat (first | simp only [List.getElem_cons_succ] | simp only [List.getElem_cons_zero])); (repeat (first | simp only [List.set_cons_succ] | simp only [List.set_cons_zero]))
              refine wpAnyH_take (i := 2) (v := ?_) rfl (by kernel_rfl) (by kernel_rfl) (by kernel_rfl) (fun _ _ _ h => h) (Or.inl ⟨by rfl, ?_⟩) hHeld ?_
              rotate_left
              · intro w hSw
                (try dsimp only at hSw)
                go_simp
                try with_reducible rfl
              (try simp only [Act.put]); (try simp only [List.setIfInBounds_toArray]); (try simp only [List.getElem_toArray]); (repeat (first | simp only [List.getElem_cons_succ] | simp only [List.getElem_cons_zero])); (repeat (first | simp only [List.set_cons_succ] | simp only [List.set_cons_zero]))
              refine wpAnyH_take (i := 3) (v := ?_) rfl (by kernel_rfl) (by kernel_rfl) (by kernel_rfl) (fun _ _ _ h => h) (Or.inl ⟨by rfl, ?_⟩) hHeld ?_
              rotate_left
              · intro w hSw
                (try dsimp only at hSw)
                go_simp
                try with_reducible rfl
              (try simp only [Act.put]); (try simp only [List.setIfInBounds_toArray]); (try simp only [List.getElem_toArray]); (repeat (first | simp only [List.getElem_cons_succ] | simp only [List.getElem_cons_zero])); (repeat (first | simp only [List.set_cons_succ] | simp only [List.set_cons_zero]))
              refine wpAnyH_take (i := 4) (v := ?_) rfl (by kernel_rfl) (by kernel_rfl) (by kernel_rfl) (fun _ _ _ h => h) (Or.inl ⟨by rfl, ?_⟩) hHeld ?_
              rotate_left
              · intro w hSw
                (try dsimp only at hSw)
                have y0 := hSw.1.2
                go_simp
                try with_reducible rfl
              (try simp only [Act.put]); (try simp only [List.setIfInBounds_toArray]); (try simp only [List.getElem_toArray]); (repeat (first | simp only [List.getElem_cons_succ] | simp only [List.getElem_cons_zero])); (repeat (first | simp only [List.set_cons_succ] | simp only [List.set_cons_zero]))
              refine wpAnyH_take (i := 5) (v := ?_) rfl (by kernel_rfl) (by kernel_rfl) (by kernel_rfl) (fun _ _ _ h => h) (Or.inl ⟨by rfl, ?_⟩) hHeld ?_
              rotate_left
              · intro w hSw
                (try dsimp only at hSw)
                go_simp
                try with_reducible rfl
              (try simp only [Act.put]); (try simp only [List.setIfInBounds_toArray]); (try simp only [List.getElem_toArray]); (repeat (first | simp only [List.getElem_cons_succ] | simp only [List.getElem_cons_zero])); (repeat (first | simp only [List.set_cons_succ] | simp only [List.set_cons_zero]))
              refine wpAnyH_take (i := 6) (v := ?_) rfl (by kernel_rfl) (by kernel_rfl) (by kernel_rfl) (fun _ _ _ h => h) (Or.inl ⟨by rfl, ?_⟩) hHeld ?_
              rotate_left
              · intro w hSw
                (try dsimp only at hSw)
                go_simp
                try with_reducible rfl
              (try simp only [Act.put]); (try simp only [List.setIfInBounds_toArray]); (try simp only [List.getElem_toArray]); (repeat (first | simp only [List.getElem_cons_succ] | simp only [List.getElem_cons_zero])); (repeat (first | simp only [List.set_cons_succ] | simp only [List.set_cons_zero]))
              refine wpAnyH_take (i := 7) (v := ?_) rfl (by kernel_rfl) (by kernel_rfl) (by kernel_rfl) (fun _ _ _ h => h) (Or.inl ⟨by rfl, ?_⟩) hHeld ?_
              rotate_left
              · intro w hSw
                (try dsimp only at hSw)
                obtain ⟨y0, y1, y2, y3, y4, y5, y6, y7, y8, y9, y10⟩ := hSw.2.2.1
                go_simp
                try with_reducible rfl
              (try simp only [Act.put]); (try simp only [List.setIfInBounds_toArray]); (try simp only [List.getElem_toArray]); (repeat (first | simp only [List.getElem_cons_succ] | simp only [List.getElem_cons_zero])); (repeat (first | simp only [List.set_cons_succ] | simp only [List.set_cons_zero]))
              refine wpAnyH_take (i := 8) (v := ?_) rfl (by kernel_rfl) (by kernel_rfl) (by kernel_rfl) (fun _ _ _ h => h) (Or.inl ⟨by rfl, ?_⟩) hHeld ?_
              rotate_left
              · intro w hSw
                (try dsimp only at hSw)
                go_simp
                try with_reducible rfl
              (try simp only [Act.put]); (try simp only [List.setIfInBounds_toArray]); (try simp only [List.getElem_toArray]); (repeat (first | simp only [List.getElem_cons_succ] | simp only [List.getElem_cons_zero])); (repeat (first | simp only [List.set_cons_succ] | simp only [List.set_cons_zero]))
              refine wpAnyH_take (i := 9) (v := ?_) rfl (by kernel_rfl) (by kernel_rfl) (by kernel_rfl) (fun _ _ _ h => h) (Or.inl ⟨by rfl, ?_⟩) hHeld ?_
              rotate_left
              · intro w hSw
                (try dsimp only at hSw)
                have y0 := hSw.2.1.1
                go_simp
                try with_reducible rfl
              (try simp only [Act.put]); (try simp only [List.setIfInBounds_toArray]); (try simp only [List.getElem_toArray]); (repeat (first | simp only [List.getElem_cons_succ] | simp only [List.getElem_cons_zero])); (repeat (first | simp only [List.set_cons_succ] | simp only [List.set_cons_zero]))
              refine wpAnyH_take (i := 10) (v := ?_) rfl (by kernel_rfl) (by kernel_rfl) (by kernel_rfl) (fun _ _ _ h => h) (Or.inl ⟨by rfl, ?_⟩) hHeld ?_
              rotate_left
              · intro w hSw
                (try dsimp only at hSw)
                go_simp
                try with_reducible rfl
              (try simp only [Act.put]); (try simp only [List.setIfInBounds_toArray]); (try simp only [List.getElem_toArray]); (repeat (first | simp only [List.getElem_cons_succ] | simp only [List.getElem_cons_zero])); (repeat (first | simp only [List.set_cons_succ] | simp only [List.set_cons_zero]))
              refine wpAnyH_take (i := 11) (v := ?_) rfl (by kernel_rfl) (by kernel_rfl) (by kernel_rfl) (fun _ _ _ h => h) (Or.inl ⟨by rfl, ?_⟩) hHeld ?_
              rotate_left
              · intro w hSw
                (try dsimp only at hSw)
                go_simp
                try with_reducible rfl
              (try simp only [Act.put]); (try simp only [List.setIfInBounds_toArray]); (try simp only [List.getElem_toArray]); (repeat (first | simp only [List.getElem_cons_succ] | simp only [List.getElem_cons_zero])); (repeat (first | simp only [List.set_cons_succ] | simp only [List.set_cons_zero]))
              refine wpAnyH_take (i := 12) (v := ?_) rfl (by kernel_rfl) (by kernel_rfl) (by kernel_rfl) (fun _ _ _ h => h) (Or.inl ⟨by rfl, ?_⟩) hHeld ?_
              rotate_left
              · intro w hSw
                (try dsimp only at hSw)
                have y0 := hSw.2.1.2
                go_simp
                try with_reducible rfl
              (try simp only [Act.put]); (try simp only [List.setIfInBounds_toArray]); (try simp only [List.getElem_toArray]); (repeat (first | simp only [List.getElem_cons_succ] | simp only [List.getElem_cons_zero])); (repeat (first | simp only [List.set_cons_succ] | simp only [List.set_cons_zero]))
              refine wpAnyH_take (i := 13) (v := ?_) rfl (by kernel_rfl) (by kernel_rfl) (by kernel_rfl) (fun _ _ _ h => h) (Or.inl ⟨by rfl, ?_⟩) hHeld ?_
              rotate_left
              · intro w hSw
                (try dsimp only at hSw)
                go_simp
                try with_reducible rfl
              (try simp only [Act.put]); (try simp only [List.setIfInBounds_toArray]); (try simp only [List.getElem_toArray]); (repeat (first | simp only [List.getElem_cons_succ] | simp only [List.getElem_cons_zero])); (repeat (first | simp only [List.set_cons_succ] | simp only [List.set_cons_zero]))
              refine wpAnyH_take (i := 14) (v := ?_) rfl (by kernel_rfl) (by kernel_rfl) (by kernel_rfl) (fun _ _ _ h => h) (Or.inl ⟨by rfl, ?_⟩) hHeld ?_
              rotate_left
              · intro w hSw
                (try dsimp only at hSw)
                go_simp
                try with_reducible rfl
              (try simp only [Act.put]); (try simp only [List.setIfInBounds_toArray]); (try simp only [List.getElem_toArray]); (repeat (first | simp only [List.getElem_cons_succ] | simp only [List.getElem_cons_zero])); (repeat (first | simp only [List.set_cons_succ] | simp only [List.set_cons_zero]))
              refine wpAnyH_take (i := 15) (v := ?_) rfl (by kernel_rfl) (by kernel_rfl) (by kernel_rfl) (fun _ _ _ h => h) (Or.inl ⟨by rfl, ?_⟩) hHeld ?_
              rotate_left
              · intro w hSw
                (try dsimp only at hSw)
                obtain ⟨y0, y1, y2, y3, y4, y5, y6, y7, y8, y9, y10⟩ := hSw.2.2.2
                go_simp
                try with_reducible rfl
              (try simp only [Act.put]); (try simp only [List.setIfInBounds_toArray]); (try simp only [List.getElem_toArray]); (repeat (first | simp only [List.getElem_cons_succ] | simp only [List.getElem_cons_zero])); (repeat (first | simp only [List.set_cons_succ] | simp only [List.set_cons_zero]))
              refine wpAnyH_ready (rs := [16]) (by kernel_rfl) (by simp) ?_
              refine AllReadyH.cons rfl (fun KK hKK => ?_) AllReadyH.nil
              go_simp
              refine (HSO.out _ (below_drewN HBX.out 1)).mono ?_
              rintro e w8 ⟨rfl, D9⟩
              have HB8 := keepH (below_chain (below_drewN HBX.out 1) D9)
              have hcc := HKE.out w8 HB8.out
              clear D9
              refine hKK.out _ _ ?_ (fun hHeld => ?_)
              · exact hcc
              clear hKK KK
              (try simp only [Act.put]); (try simp only [List.setIfInBounds_toArray]); (try simp only [List.getElem_toArray]); (repeat (first | simp only [List.getElem_cons_succ] | simp only [List.getElem_cons_zero])); (repeat (first | simp only [List.set_cons_succ] | simp only [List.set_cons_zero]))
              refine wpAnyH_take (i := 17) (v := ?_) rfl (by kernel_rfl) (by kernel_rfl) (by kernel_rfl) (fun _ _ _ h => h) (Or.inl ⟨by rfl, ?_⟩) hHeld ?_
              rotate_left
              · intro w hSw
                (try dsimp only at hSw)
                go_simp
                try with_reducible rfl
              (try simp only [Act.put]); (try simp only [List.setIfInBounds_toArray]); (try simp only [List.getElem_toArray]); (repeat (first | simp only [List.getElem_cons_succ] | simp only [List.getElem_cons_zero])); (repeat (first | simp only [List.set_cons_succ] | simp only [List.set_cons_zero]))
              refine wpAnyH_done (by kernel_rfl) ?_ _
              go_simp
              clear hHeld
              go_wp2_with fail
              go_roundw
              case rel => exact ⟨j + 1, by omega, by first | rfl | go_num, keepH (below_chain HBXo.out HB8.out)⟩
              case measure => simp [intOf]; omega
            · obtain rfl : j = k := by omega
              have s1 : ¬ (j : Int) < (j : Int) := by omega
              have HB8 := keepH (below_chain HBW.out HBX.out)
              go_wp2_with fail
              go_roundw
              case rel => exact ⟨i + 1, by omega, by first | rfl | go_num, HB8⟩
              case measure => simp [intOf]; omega
        · obtain rfl : i = n := by omega
          have r1 : ¬ (i : Int) < (i : Int) := by omega
          have HB8 := keepH (below_chain HB1.out HBW.out)
          go_wp2_with fail
          go_ret
          exact ⟨rfl, HB8.out⟩
end Go.Proofs.YtmmaniolaljjlaaGreatDoor
/- A copy of a script in memory of its own: what it is made of. -/
namespace Go.Proofs.YtmmaniolaljjlaaGreatDoor
open Go.RowKit Go.Shelf
set_option linter.unusedVariables false

def opC (o : Opx) (kv : Value) : List Value := (opR o.k o.key o.val o.old o.hnd o.set o.rt o.ri kv o.lo o.hi).toList
theorem opC_len (o : Opx) (kv : Value) : (opC o kv).length = 11 := rfl
def opRows : List Opx → List Value → List Value
  | o :: l, kv :: ks => opC o kv ++ opRows l ks
  | _, _ => []
theorem opRows_snoc : ∀ (l : List Opx) (ks : List Value) (o : Opx) (kv : Value), ks.length = l.length → opRows (l ++ [o]) (ks ++ [kv]) = opRows l ks ++ opC o kv
  | [], [], o, kv, _ => by simp [opRows]
  | [], k :: ks, o, kv, h => by simp at h
  | a :: l, [], o, kv, h => by simp at h
  | a :: l, k :: ks, o, kv, h => by
    simp only [List.cons_append, opRows]
    rw [opRows_snoc l ks o kv (by simpa using h)]
    simp
theorem opRows_at : ∀ (l : List Opx) (ks : List Value) (i q : Nat) (o : Opx) (kv : Value), l[i]? = some o → ks[i]? = some kv → q < 11 → (opRows l ks)[i * 11 + q]? = (opC o kv)[q]?
  | a :: l, k :: ks, 0, q, o, kv, h1, h2, hq => by
    simp at h1 h2
    subst h1 h2
    simp only [opRows]
    rw [List.getElem?_append_left (by rw [opC_len]; omega)]
    simp
  | a :: l, k :: ks, i + 1, q, o, kv, h1, h2, hq => by
    simp only [opRows]
    rw [List.getElem?_append_right (by rw [opC_len]; omega), opC_len, show (i + 1) * 11 + q - 11 = i * 11 + q by omega]
    exact opRows_at l ks i q o kv (by simpa using h1) (by simpa using h2) hq
  | [], _, i, q, o, kv, h1, _, _ => by simp at h1
  | a :: l, [], i, q, o, kv, _, h2, _ => by simp at h2
def KyO (Z wr : World) (keys : List Nat) (kv : Value) : Prop := wr.ownsRow 0 23 1 kv keys.length (uRow keys) ∧ ∀ b, kv.ownBlock = some b → Z.heap.size ≤ b
/-- a list of operations of one's own -/
def OB (Z wr : World) (v : Value) (l : List Opx) : Prop := ∃ ks : List Value, ks.length = l.length ∧ wr.ownsRow 0 28 11 v l.length (opRows l ks) ∧ (∀ b, v.ownBlock = some b → Z.heap.size ≤ b) ∧ ∀ (i : Nat) (o : Opx) (kv : Value), l[i]? = some o → ks[i]? = some kv → KyO Z wr o.keys kv
def Kp (wr X : World) : Prop := ∀ (b : Nat) (cur : Array Value) (t : TypeId), wr.heap[b]? = some (.cells cur t (0, 0)) → (t = 28 ∨ t = 23) → X.heap[b]? = wr.heap[b]?
theorem Kp.bel {wr X : World} (h : Below wr.heap.size wr X) : Kp wr X := fun b cur t hb _ => h.block b (Array.getElem?_eq_some_iff.1 hb).1
theorem row_keptK {wr X : World} {e : TypeId} {s n : Nat} {v : Value} {xs : List Value} (h : wr.ownsRow 0 e s v n xs) (hk : Kp wr X) (he : e = 28 ∨ e = 23) : X.ownsRow 0 e s v n xs := row_kept h fun b hb => by
  obtain ⟨cur, hcur⟩ := row_block h b hb
  exact hk b cur e hcur he
theorem OB.kept {Z wr X : World} {v : Value} {l : List Opx} (h : OB Z wr v l) (hk : Kp wr X) : OB Z X v l := by
  obtain ⟨ks, h1, h2, h3, h4⟩ := h
  exact ⟨ks, h1, row_keptK h2 hk (.inl rfl), h3, fun i o kv ho hkv => ⟨row_keptK (h4 i o kv ho hkv).1 hk (.inr rfl), (h4 i o kv ho hkv).2⟩⟩
theorem OB.nil (Z wr : World) : OB Z wr (.slice none 0 0) [] := ⟨[], rfl, World.ownsRow_nil _ _ _ _, fun b hb => by simp [Value.ownBlock] at hb, fun i o kv ho => by simp at ho⟩
theorem OB.more {Z w1 w2 : World} {v v' kv : Value} {l : List Opx} {o : Opx} {ob : Obj} {ks : List Value} (h1 : ks.length = l.length) (h2 : w1.ownsRow 0 28 11 v l.length (opRows l ks)) (h3 : ∀ b, v.ownBlock = some b → Z.heap.size ≤ b) (h4 : ∀ (i : Nat) (o : Opx) (kv : Value), l[i]? = some o → ks[i]? = some kv → KyO Z w1 o.keys kv)
    (hZ : Z.heap.size ≤ w1.heap.size) (hkv : KyO Z w1 o.keys kv) (hr : w2.ownsRow 0 28 11 v' (l.length + 1) (opRows l ks ++ opC o kv)) (hg : (w1.alloc ob).grownBy w2 v.ownBlock) (hw : v'.ownBlock = v.ownBlock ∨ v'.ownBlock = some (w1.alloc ob).heap.size) : OB Z w2 v' (l ++ [o]) := by
  have ky : ∀ keys kv, KyO Z w1 keys kv → KyO Z w2 keys kv := fun keys kv hk => ⟨row_kept hk.1 fun b hb => by
    obtain ⟨cur, hcur⟩ := row_block hk.1 b hb
    have hlt := (Array.getElem?_eq_some_iff.1 hcur).1
    have ha : (w1.alloc ob).heap[b]? = w1.heap[b]? := Below.heap_alloc _ _ _ hlt
    rw [← ha]
    refine hg.block b (by simp; omega) (fun e => ?_)
    obtain ⟨cur2, hcur2⟩ := row_block h2 b e.symm
    rw [hcur] at hcur2
    injection hcur2 with hcur2
    injection hcur2 with _ ht
    exact absurd ht (by decide), hk.2⟩
  refine ⟨ks ++ [kv], by simp [h1], by rw [opRows_snoc l ks o kv h1, List.length_append]; exact hr, fun b hb => ?_, fun i x kx hx hkx => ?_⟩
  · rcases hw with e | e
    · rw [e] at hb; exact h3 b hb
    · rw [e] at hb
      simp at hb
      omega
  · by_cases hi : i < l.length
    · rw [List.getElem?_append_left hi] at hx
      rw [List.getElem?_append_left (by omega)] at hkx
      exact ky _ _ (h4 i x kx hx hkx)
    · have hi2 : i = l.length := by
        have := (List.getElem?_eq_some_iff.1 hx).1
        simp at this
        omega
      subst hi2
      rw [← h1] at hkx
      simp at hx hkx
      subst hx hkx
      exact ky _ _ hkv
theorem KyO.form {Z wr : World} {keys : List Nat} {kv : Value} (h : KyO Z wr keys kv) : ∃ kp kc, kv = .slice kp keys.length kc ∧ KRd wr kp keys := by
  have hl := fun k hk => row_lt h.1 k hk
  have hc := fun g (hg : kv.ownBlock = some g) => h.1.cells (g := g) hg
  rcases h.1.2 with ⟨hv, h0⟩ | ⟨g, cap, cur, hv, _⟩
  · exact ⟨none, 0, by rw [hv, h0], .inl (List.eq_nil_of_length_eq_zero h0)⟩
  · refine ⟨_, cap, hv, .inr ⟨g, 0, rfl, hl g (by rw [hv]; rfl), fun i x hx => ?_⟩⟩
    have := hc g (by rw [hv]; rfl) i (.int .u64 (x : Int)) (by unfold uRow; rw [List.getElem?_map, hx]; rfl)
    rw [Addr.add_mid] at this
    exact this
theorem OB.ord {Z wr : World} {v : Value} {l : List Opx} (h : OB Z wr v l) : ∃ lp lc, v = .slice lp l.length lc ∧ ORd wr lp l := by
  obtain ⟨ks, h1, h2, h3, h4⟩ := h
  have h2' := h2
  rcases h2.2 with ⟨hv, h0⟩ | ⟨g, cap, cur, hv, _⟩
  · exact ⟨none, 0, by rw [hv, h0], .inl (List.eq_nil_of_length_eq_zero h0)⟩
  · refine ⟨_, cap, hv, .inr ⟨g, 0, rfl, row_lt h2 g (by rw [hv]; rfl), fun i o ho => ?_⟩⟩
    have hi := (List.getElem?_eq_some_iff.1 ho).1
    obtain ⟨kv, hkv⟩ : ∃ kv, ks[i]? = some kv := ⟨_, List.getElem?_eq_getElem (by omega)⟩
    obtain ⟨kp, kc, rfl, hK⟩ := (h4 i o kv ho hkv).form
    rw [hv] at h2'
    have hcell : ∀ q, q < 11 → wr.cell? ⟨g, 0 + i * 11 + q, none⟩ = (opC o (.slice kp o.keys.length kc))[q]? := fun q hq => by
      rw [Nat.zero_add, World.ownsRow.cellAt h2' (i * 11 + q) (by omega)]
      exact opRows_at l ks i q o _ ho hkv hq
    exact ⟨kp, kc, hK, hcell 0 (by decide), hcell 1 (by decide), hcell 2 (by decide), hcell 3 (by decide), hcell 4 (by decide), hcell 5 (by decide), hcell 6 (by decide), hcell 7 (by decide), hcell 8 (by decide), hcell 9 (by decide), hcell 10 (by decide)⟩
end Go.Proofs.YtmmaniolaljjlaaGreatDoor
/- A copy of a script: what lies in memory while it is made. -/
namespace Go.Proofs.YtmmaniolaljjlaaGreatDoor
open Go.RowKit Go.Shelf Go.Maps
set_option linter.unusedVariables false

theorem infoInt : (Tryz.prog.info? 3).map (fun i => (i.zero, i.size, i.bytes)) = some (some (.int .i64 0), 1, 8) := by kernel_rfl
theorem infoOps : (Tryz.prog.info? 75).map (fun i => (i.zero, i.size, i.bytes)) = some (some (.slice none 0 0), 1, 24) := by kernel_rfl
theorem infoOp : (Tryz.prog.info? 28).map (fun i => (i.zero, i.size, i.bytes)) = some (some (.agg #[.int .u8 0, .int .u64 0, .int .u64 0, .int .u64 0, .int .u64 0, .bool false, .int .i64 0, .int .i64 0, .slice none 0 0, .int .u64 0, .int .u64 0]), 11, 104) := by kernel_rfl
def iRow (l : List Int) : List Value := l.map (fun x => Value.int .i64 x)
theorem wpList_append_runS {P : Program} {w : World} {ops : Array Oper} {rest : List Oper} {o : Oper} {a : Act} {Q : Exit → Act → World → Prop} (hgd : o.guard = none) (s x : Operand) (t : TypeId)
    (ho : o.op = .call { callee := .builtin .append, args := #[s, x], argTypes := #[t, t] }) (v vx v' : Value) (w' : World) (hs : a.eval s = v) (hx : a.eval x = vx) (hr : (Builtin.append_ #[t, t] o.type #[v, vx]).run P w = .ok v' w')
    (h : wpList P ops Q rest (a.put o.dst v') w') : wpList P ops Q (o :: rest) a w := by
  refine wpList_plain hgd fun K hK => ?_
  unfold Oper.wp execOp
  simp only [ho, resolve, invoke, builtin, Sem.run_bind, Sem.run_pure, Result.andThen_ok, List.map_toArray, List.map_cons, List.map_nil, hs, hx, hr]
  exact hK _ _ h
theorem step_append_runS {P : Program} {ops : Array Oper} {o : Oper} {a : Act} {w : World} {K : Act → World → Prop} {Q : Exit → Act → World → Prop} {E : Prop}
    (hgd : o.guard = none) (s x : Operand) (t : TypeId) (ho : o.op = Op.call { callee := Callee.builtin Builtin.append, args := #[s, x], argTypes := #[t, t] }) (v y v' : Value) (w' : World) (hs : a.eval s = v) (hx : a.eval x = y)
    (hr : (Builtin.append_ #[t, t] o.type #[v, y]).run P w = .ok v' w') (h : K (a.put o.dst v') w') :
    if Region.wanted o (yielded ops a.tmps) = true then Oper.wp P o a w K Q else E := by
  have hw : Region.wanted o (yielded ops a.tmps) = true := by simp [Region.wanted, hgd]
  rw [if_pos hw]
  unfold Oper.wp execOp
  simp only [ho, resolve, invoke, builtin, Sem.run_bind, Sem.run_pure, Result.andThen_ok, List.map_toArray, List.map_cons, List.map_nil, hs, hx, hr]
  exact h
theorem app_nilK (W : World) (p : Option Addr) (c : Nat) (l : List Nat) (hl : l.length ≤ 10000000) (h : KRd W p l) (ty : TypeId) : ∃ v' W', (Builtin.append_ #[26, 26] ty #[.slice none 0 0, .slice p l.length c]).run Tryz.prog W = .ok v' W' ∧ W'.ownsRow 0 23 1 v' l.length (uRow l) ∧ W.grownBy W' none ∧ (v'.ownBlock = none ∨ v'.ownBlock = some W.heap.size) := by
  obtain ⟨i0, hi, hz0, hz1, hz2⟩ := info_parts infoUk
  rcases h with rfl | ⟨bk, off, rfl, hb, hc⟩
  · exact ⟨_, W, run_append_empty (P := Tryz.prog) W 26 ty 23 i0 Tryz.underlying26 hi p c, World.ownsRow_nil _ _ _ _, ⟨rfl, rfl, rfl, Nat.le_refl _, fun _ _ _ => rfl⟩, .inl rfl⟩
  · obtain ⟨v', w', hr, h2, h3, h4, h5⟩ := run_append_own_at (P := Tryz.prog) W 0 26 ty 23 i0 (.int .u64 0) 1 8 Tryz.underlying26 hi hz0 hz1 hz2 rfl (by decide) (.slice none 0 0) 0 [] (World.ownsRow_nil _ _ _ _) ⟨bk, off, none⟩ l.length c (uRow l) (by simp [uRow]) (fun j u hj => by
      unfold uRow at hj
      rw [List.getElem?_map] at hj
      obtain ⟨x, hx, rfl⟩ := Option.map_eq_some_iff.mp hj
      rw [show (⟨bk, off, none⟩ : Addr).add j = ⟨bk, off + j, none⟩ by unfold Addr.add; split <;> simp_all]
      exact hc j x hx) (by intro u hu; unfold uRow at hu; obtain ⟨x, _, rfl⟩ := List.mem_map.1 hu; rfl) (by unfold maxLen; omega) (by omega) (Nat.zero_le _)
    exact ⟨v', w', hr, by simpa using h2, h3, h5⟩
theorem app_nilI (W : World) (p : Option Addr) (c : Nat) (l : List Int) (hl : l.length ≤ 10000000) (h : IRd W p l) (ty : TypeId) : ∃ v' W', (Builtin.append_ #[44, 44] ty #[.slice none 0 0, .slice p l.length c]).run Tryz.prog W = .ok v' W' ∧ W'.ownsRow 0 3 1 v' l.length (iRow l) ∧ W.grownBy W' none ∧ (v'.ownBlock = none ∨ v'.ownBlock = some W.heap.size) := by
  obtain ⟨i0, hi, hz0, hz1, hz2⟩ := info_parts infoInt
  rcases h with rfl | ⟨bk, off, rfl, hb, hc⟩
  · exact ⟨_, W, run_append_empty (P := Tryz.prog) W 44 ty 3 i0 Tryz.underlying44 hi p c, World.ownsRow_nil _ _ _ _, ⟨rfl, rfl, rfl, Nat.le_refl _, fun _ _ _ => rfl⟩, .inl rfl⟩
  · obtain ⟨v', w', hr, h2, h3, h4, h5⟩ := run_append_own_at (P := Tryz.prog) W 0 44 ty 3 i0 (.int .i64 0) 1 8 Tryz.underlying44 hi hz0 hz1 hz2 rfl (by decide) (.slice none 0 0) 0 [] (World.ownsRow_nil _ _ _ _) ⟨bk, off, none⟩ l.length c (iRow l) (by simp [iRow]) (fun j u hj => by
      unfold iRow at hj
      rw [List.getElem?_map] at hj
      obtain ⟨x, hx, rfl⟩ := Option.map_eq_some_iff.mp hj
      rw [show (⟨bk, off, none⟩ : Addr).add j = ⟨bk, off + j, none⟩ by unfold Addr.add; split <;> simp_all]
      exact hc j x hx) (by intro u hu; unfold iRow at hu; obtain ⟨x, _, rfl⟩ := List.mem_map.1 hu; rfl) (by unfold maxLen; omega) (by omega) (Nat.zero_le _)
    exact ⟨v', w', hr, by simpa using h2, h3, h5⟩
theorem bel_grown {W W' : World} (h : W.grownBy W' none) : Below W.heap.size W W' := (Below.refl _ W).grown h (Nat.le_refl _) (fun k hk => by simp at hk)
structure CB (W : World) (P O R : Nat) (row zr : Array Value) (ce sl : Int) (stp : Nat) (mu : Int) (pv tv : Value) (ps : List Int) (ts : List (List Opx)) (wr : World) : Prop where
  bel : Below W.heap.size W wr
  box : wr.heap[P]? = some (.cells row 46 (0, 0))
  out : wr.heap[O]? = some (.cells (scR ce sl stp mu tv pv) 46 (0, 0))
  res : wr.heap[R]? = some (.cells zr 46 (0, 0))
  pr : wr.ownsRow 0 3 1 pv ps.length (iRow ps)
  tr : ∃ vs : List Value, vs.length = ts.length ∧ wr.ownsRow 0 75 1 tv ts.length vs ∧ (∀ b, tv.ownBlock = some b → W.heap.size ≤ b) ∧ ∀ (i : Nat) (l : List Opx) (v : Value), ts[i]? = some l → vs[i]? = some v → OB W wr v l
  lO : W.heap.size ≤ O
  lR : W.heap.size ≤ R
  nP : P ≠ O
  nR : R ≠ O
theorem CB.on {W : World} {P O R : Nat} {row zr : Array Value} {ce sl : Int} {stp : Nat} {mu : Int} {pv tv : Value} {ps : List Int} {ts : List (List Opx)} {wr X : World} (h : CB W P O R row zr ce sl stp mu pv tv ps ts wr) (hb : Below wr.heap.size wr X) : CB W P O R row zr ce sl stp mu pv tv ps ts X := by
  obtain ⟨vs, v1, v2, v3, v4⟩ := h.tr
  exact ⟨below_chain h.bel hb, heap_below h.box hb, heap_below h.out hb, heap_below h.res hb, row_kept h.pr (fun k hk => hb.block k (row_lt h.pr k hk)), ⟨vs, v1, row_kept v2 (fun k hk => hb.block k (row_lt v2 k hk)), v3, fun i l v a b => (v4 i l v a b).kept (Kp.bel hb)⟩, h.lO, h.lR, h.nP, h.nR⟩
theorem OB.base {Z Z' wr : World} {v : Value} {l : List Opx} (h : OB Z wr v l) (hz : Z'.heap.size ≤ Z.heap.size) : OB Z' wr v l := by
  obtain ⟨ks, h1, h2, h3, h4⟩ := h
  exact ⟨ks, h1, h2, fun b hb => Nat.le_trans hz (h3 b hb), fun i o kv a b => ⟨(h4 i o kv a b).1, fun c hc => Nat.le_trans hz ((h4 i o kv a b).2 c hc)⟩⟩
theorem CB.more {W : World} {P O R : Nat} {row zr : Array Value} {ce sl : Int} {stp : Nat} {mu : Int} {pv tv tv' v : Value} {ps : List Int} {ts : List (List Opx)} {l : List Opx} {wr w2 : World} {ob : Obj} (h : CB W P O R row zr ce sl stp mu pv tv ps ts wr) (hl : OB W wr v l) {vs : List Value} (v1 : vs.length = ts.length) (v2 : wr.ownsRow 0 75 1 tv ts.length vs) (v3 : ∀ b, tv.ownBlock = some b → W.heap.size ≤ b) (v4 : ∀ (i : Nat) (l : List Opx) (v : Value), ts[i]? = some l → vs[i]? = some v → OB W wr v l)
    (hr : w2.ownsRow 0 75 1 tv' (ts.length + 1) (vs ++ [v])) (hg : (wr.alloc ob).grownBy w2 tv.ownBlock) (hw : tv'.ownBlock = tv.ownBlock ∨ tv'.ownBlock = some (wr.alloc ob).heap.size) : CB W P O R row zr ce sl stp mu pv tv' ps (ts ++ [l]) (w2.setCell ⟨O, 4, none⟩ tv') ∧ w2.cell? ⟨O, 4, none⟩ = some tv ∧ w2.frozen? ⟨O, 4, none⟩ = false := by
  have hs := h.bel.size
  have keepB : ∀ (b : Nat) (cur : Array Value) (t : TypeId), wr.heap[b]? = some (.cells cur t (0, 0)) → t ≠ 75 → w2.heap[b]? = some (.cells cur t (0, 0)) := fun b cur t hb ht => by
    have hlt := (Array.getElem?_eq_some_iff.1 hb).1
    have ha : (wr.alloc ob).heap[b]? = wr.heap[b]? := Below.heap_alloc _ _ _ hlt
    rw [hg.block b (by simp; omega) (fun e => by
      obtain ⟨cur2, hcur2⟩ := row_block v2 b e.symm
      rw [hb] at hcur2
      injection hcur2 with hcur2
      injection hcur2 with _ h9
      exact ht h9), ha]
    exact hb
  have hO2 := keepB O _ _ h.out (by decide)
  have kp2 : Kp wr w2 := fun b cur t hb ht => (keepB b cur t hb (by rcases ht with rfl | rfl <;> decide)).trans hb.symm
  have kpS : ∀ (b : Nat) (cur : Array Value) (t : TypeId), w2.heap[b]? = some (.cells cur t (0, 0)) → t ≠ 46 → (w2.setCell ⟨O, 4, none⟩ tv').heap[b]? = w2.heap[b]? := fun b cur t hb ht => Below.heap_setCell _ _ _ _ (fun e => by
    have e2 : b = O := e
    rw [e2, hO2] at hb
    injection hb with hb
    injection hb with _ h9
    exact ht h9.symm)
  have kp3 : Kp w2 (w2.setCell ⟨O, 4, none⟩ tv') := fun b cur t hb ht => kpS b cur t hb (by rcases ht with rfl | rfl <;> decide)
  refine ⟨⟨?_, other_of (keepB P _ _ h.box (by decide)) h.nP _, set_of hO2 4 tv', other_of (keepB R _ _ h.res (by decide)) h.nR _, ?_, ⟨vs ++ [v], by simp [v1], ?_, ?_, ?_⟩, h.lO, h.lR, h.nP, h.nR⟩, cell_of hO2 4, free_of hO2 4⟩
  · exact ((h.bel.alloc hs ob).grown hg (by simp; omega) (fun b e => v3 b e)).setCell h.lO _
  · have p2 : w2.ownsRow 0 3 1 pv ps.length (iRow ps) := row_kept h.pr fun k hk => by
      obtain ⟨cur, hcur⟩ := row_block h.pr k hk
      exact (keepB k cur _ hcur (by decide)).trans hcur.symm
    exact row_kept p2 fun k hk => by
      obtain ⟨cur, hcur⟩ := row_block p2 k hk
      exact kpS k cur _ hcur (by decide)
  · rw [List.length_append]
    exact row_kept hr fun k hk => by
      obtain ⟨cur, hcur⟩ := row_block hr k hk
      exact kpS k cur _ hcur (by decide)
  · intro b hb
    rcases hw with e | e
    · rw [e] at hb; exact v3 b hb
    · rw [e] at hb
      simp at hb
      omega
  · intro i l' v' hi hv'
    by_cases hlt : i < ts.length
    · rw [List.getElem?_append_left hlt] at hi
      rw [List.getElem?_append_left (by omega)] at hv'
      exact ((v4 i l' v' hi hv').kept kp2).kept kp3
    · have hi2 : i = ts.length := by
        have := (List.getElem?_eq_some_iff.1 hi).1
        simp at this
        omega
      subst hi2
      rw [← v1] at hv'
      simp at hi hv'
      subst hi hv'
      exact (hl.kept kp2).kept kp3
theorem CB.ret {W : World} {P O R : Nat} {row zr : Array Value} {ce sl : Int} {stp : Nat} {mu : Int} {pv tv : Value} {ps : List Int} {ts : List (List Opx)} {wr : World} (h : CB W P O R row zr ce sl stp mu pv tv ps ts wr) (hPR : P ≠ R) (cs : Array Value) : CB W P O R row cs ce sl stp mu pv tv ps ts (wr.setRow R cs) := by
  have kpS : ∀ (b : Nat) (cur : Array Value) (t : TypeId), wr.heap[b]? = some (.cells cur t (0, 0)) → t ≠ 46 → (wr.setRow R cs).heap[b]? = wr.heap[b]? := fun b cur t hb ht => setRow_other _ _ _ _ (fun e => by
    rw [e, h.res] at hb
    injection hb with hb
    injection hb with _ h9
    exact ht h9.symm)
  have kp3 : Kp wr (wr.setRow R cs) := fun b cur t hb ht => kpS b cur t hb (by rcases ht with rfl | rfl <;> decide)
  obtain ⟨vs, v1, v2, v3, v4⟩ := h.tr
  refine ⟨below_setRow h.bel h.lR _, (setRow_other _ _ _ _ hPR).trans h.box, (setRow_other _ _ _ _ (Ne.symm h.nR)).trans h.out, setRow_heap _ _ _ _ _ _ h.res, ?_, ⟨vs, v1, ?_, v3, fun i l v a b => (v4 i l v a b).kept kp3⟩, h.lO, h.lR, h.nP, h.nR⟩
  · exact row_kept h.pr fun k hk => by
      obtain ⟨cur, hcur⟩ := row_block h.pr k hk
      exact kpS k cur _ hcur (by decide)
  · exact row_kept v2 fun k hk => by
      obtain ⟨cur, hcur⟩ := row_block v2 k hk
      exact kpS k cur _ hcur (by decide)
/-- what the copy reads as -/
theorem CB.reads {W : World} {P O R : Nat} {row zr : Array Value} {ce sl : Int} {stp : Nat} {mu : Int} {pv tv : Value} {ps : List Int} {ts : List (List Opx)} {wr : World} (h : CB W P O R row zr ce sl stp mu pv tv ps ts wr) : ∃ tp tc pp pc, tv = .slice tp ts.length tc ∧ pv = .slice pp ps.length pc ∧ TRd wr tp ts ∧ IRd wr pp ps ∧ ps.length ≤ pc := by
  obtain ⟨vs, v1, v2, v3, v4⟩ := h.tr
  have a : ∃ tp tc, tv = .slice tp ts.length tc ∧ TRd wr tp ts := by
    have v2' := v2
    rcases v2.2 with ⟨hv, h0⟩ | ⟨g, cap, cur, hv, _⟩
    · exact ⟨none, 0, by rw [hv, h0], .inl (List.eq_nil_of_length_eq_zero h0)⟩
    · refine ⟨_, cap, hv, .inr ⟨g, 0, rfl, row_lt v2 g (by rw [hv]; rfl), fun i l hl => ?_⟩⟩
      have hi := (List.getElem?_eq_some_iff.1 hl).1
      obtain ⟨v, hvv⟩ : ∃ v, vs[i]? = some v := ⟨_, List.getElem?_eq_getElem (by omega)⟩
      obtain ⟨lp, lc, rfl, hO⟩ := (v4 i l v hl hvv).ord
      rw [hv] at v2'
      refine ⟨lp, lc, hO, ?_⟩
      rw [Nat.zero_add, World.ownsRow.cellAt v2' i (by omega)]
      exact hvv
  obtain ⟨tp, tc, e1, h1⟩ := a
  have h2' := h.pr
  rcases h.pr.2 with ⟨hv, h0⟩ | ⟨g, cap, cur, hv, x0, x1, x2, x3, x4, x5⟩
  · exact ⟨tp, tc, none, 0, e1, by rw [hv, h0], h1, .inl (List.eq_nil_of_length_eq_zero h0), by omega⟩
  · refine ⟨tp, tc, _, cap, e1, hv, h1, .inr ⟨g, 0, rfl, row_lt h.pr g (by rw [hv]; rfl), fun i x hx => ?_⟩, by first | exact x2 | exact x3 | exact x4 | omega⟩
    have hi := (List.getElem?_eq_some_iff.1 hx).1
    rw [hv] at h2'
    rw [Nat.zero_add, World.ownsRow.cellAt h2' i (by omega)]
    simp [iRow, hx]
end Go.Proofs.YtmmaniolaljjlaaGreatDoor
