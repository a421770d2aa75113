/- Two scripts that are the same, by the document. (mkSer.py) -/
import Derived.Test.YtmmaniolaljjlaaGreatDoorB9Alloc
import Derived.Test.YtmmaniolaljjlaaGreatDoorB20Scx
import Derived.Deep.RegionHeld
import Derived.BigQuiet
import Derived.Test.YtmmaniolaljjlaaGreatDoorB15Sfg
import Derived.Test.YtmmaniolaljjlaaGreatDoorB8Sco
import Derived.Maps.AppendAt
import Derived.Lib.SmallJoins
import Derived.Deep.Slices
import Derived.Carry
import Derived.OpenShut
import Derived.SizedLaws
import Derived.Test.YtmmaniolaljjlaaGreatDoorRows
import Derived.Test.YtmmaniolaljjlaaGreatDoorB12Scq
import Derived.ProofKit
import Derived.LaidMore
import Derived.Stop.Joined
import Derived.Stop.LaidErr
import Derived.Lib.LaidTab
namespace Go.Proofs.YtmmaniolaljjlaaGreatDoor
open Go.RowKit Go.Joins Go.Shelf
set_option linter.unusedVariables false

theorem wf_u64 {n : Nat} (h : isU n) : (Lit.int .u64 (n : Int)).wf = true := by
  have e1 : IntKind.u64.min = 0 := by decide
  have e2 : IntKind.u64.max = 18446744073709551615 := by decide
  unfold isU at h
  simp [Lit.wf, e1, e2]
  omega
theorem trod_u (n : Nat) (h : isU n) (w : World) : ∃ m, DataW.trod (H := Unit) (fun _ => ()) Tryz.prog w 0 (fun _ => true) true m 23 [.int .u64 (n : Int)] = some (.lit (.int .u64 (n : Int)), []) :=
  ⟨1, by simp [DataW.trod, Tryz.underlying23, wf_u64 h]⟩
theorem cfg_key (ce sl : Int) (stp : Nat) (mu : Int) (h1 : isI ce) (h2 : isI sl) (h3 : isU stp) (h4 : isI mu) (w : World) : ∃ l, keyOf Tryz.prog 42 (.agg #[.int .i64 ce, .int .i64 sl, .int .u64 (stp : Int), .int .i64 mu]) = some l := by
  have t := shut_agg4 (enc := fun _ => ()) (P := Tryz.prog) (w := w) (base := 0) (spare := fun _ => true) (held := true) Tryz.underlying42 (by kernel_rfl) (by kernel_rfl) (trod_i ce h1 w) (trod_i sl h2 w) (trod_u stp h3 w) (trod_i mu h4 w)
  exact ⟨_, (keyOf_asKey (by kernel_rfl) (by kernel_rfl) (by kernel_rfl) t).1⟩
set_option maxRecDepth 100000 in
theorem cfg_neq (ce sl : Int) (stp : Nat) (mu : Int) (h1 : isI ce) (h2 : isI sl) (h3 : isU stp) (h4 : isI mu) (w : World) : (binOp .neq 42 (.agg #[.int .i64 ce, .int .i64 sl, .int .u64 (stp : Int), .int .i64 mu]) (.agg #[.int .i64 ce, .int .i64 sl, .int .u64 (stp : Int), .int .i64 mu])).run Tryz.prog w = .ok (.bool false) w := by
  obtain ⟨l, hl⟩ := cfg_key ce sl stp mu h1 h2 h3 h4 w
  obtain ⟨r, hr, hi⟩ := run_equal_deep (P := Tryz.prog) w (m := 3) (by omega) (by kernel_rfl) (by kernel_rfl) hl hl
  have hr1 : r = true := hi.2 rfl
  subst hr1
  simp only [binOp, go_sem]
  simp [hr, Result.andThen]
set_option maxRecDepth 100000 in
set_option maxHeartbeats 8000000 in
theorem dSame_any (ce sl : Int) (stp : Nat) (mu : Int) (h1 : isI ce) (h2 : isI sl) (h3 : isU stp) (h4 : isI mu) (tp tp' : Option Addr) (tc tc' : Nat) (pp pp' : Option Addr) (pc pc' : Nat) (ts : List (List Opx)) (ps : List Int) (hS : SOk ts ps) (W : World) (hT : TRd W tp ts) (hT' : TRd W tp' ts) (hP : IRd W pp ps) (hP' : IRd W pp' ps) :
    Calls Tryz.prog 20 #[.agg (scR ce sl stp mu (.slice tp ts.length tc) (.slice pp ps.length pc)), .agg (scR ce sl stp mu (.slice tp' ts.length tc') (.slice pp' ps.length pc'))] W fun e W' => e = .returned (.bool true) ∧ Below W.heap.size W W' := by
  have hcn := fun w => cfg_neq ce sl stp mu h1 h2 h3 h4 w
  obtain ⟨n, hn⟩ : ∃ n, n = ts.length := ⟨_, rfl⟩
  obtain ⟨m, hm⟩ : ∃ m, m = ps.length := ⟨_, rfl⟩
  have hn1 := hS.tl
  have hm1 := hS.pl
  rw [← hn] at hn1
  rw [← hm] at hm1
  rw [← hn, ← hm]
  obtain ⟨w1, hw1⟩ : ∃ w1, w1 = (W.alloc (.cells (scR ce sl stp mu (.slice tp n tc) (.slice pp m pc)) 46)).alloc (.cells (scR ce sl stp mu (.slice tp' n tc') (.slice pp' m pc')) 46) := ⟨_, rfl⟩
  obtain ⟨P, hPP⟩ : ∃ P, P = W.heap.size := ⟨_, rfl⟩
  obtain ⟨Q, hQQ⟩ : ∃ Q, Q = W.heap.size + 1 := ⟨_, rfl⟩
  have B1 : Below W.heap.size W w1 := by rw [hw1]; exact (below_alloc _ _).trans ((below_alloc _ _).mono (by simp))
  have X1 : w1.heap[P]? = some (.cells (scR ce sl stp mu (.slice tp n tc) (.slice pp m pc)) 46 (0, 0)) := by
    rw [hw1, hPP, Below.heap_alloc _ _ _ (by simp)]
    exact heap_alloc_new _ _
  have Y1 : w1.heap[Q]? = some (.cells (scR ce sl stp mu (.slice tp' n tc') (.slice pp' m pc')) 46 (0, 0)) := by
    rw [hw1, hQQ]
    have := heap_alloc_new (W.alloc (.cells (scR ce sl stp mu (.slice tp n tc) (.slice pp m pc)) 46)) (.cells (scR ce sl stp mu (.slice tp' n tc') (.slice pp' m pc')) 46)
    simpa using this
  have HP4 : Hid (∀ w, Below w1.heap.size w1 w → w.cell? ⟨P, 4, none⟩ = some (.slice tp n tc)) := keepH (fun w hb => cell_below (cell_of X1 4) hb)
  have HQ4 : Hid (∀ w, Below w1.heap.size w1 w → w.cell? ⟨Q, 4, none⟩ = some (.slice tp' n tc')) := keepH (fun w hb => cell_below (cell_of Y1 4) hb)
  have p0 : w1.cell? ⟨P, 0, none⟩ = _ := cell_of X1 0
  have q0 : w1.cell? ⟨Q, 0, none⟩ = _ := cell_of Y1 0
  have p1 : w1.cell? ⟨P, 1, none⟩ = _ := cell_of X1 1
  have q1 : w1.cell? ⟨Q, 1, none⟩ = _ := cell_of Y1 1
  have p2 : w1.cell? ⟨P, 2, none⟩ = _ := cell_of X1 2
  have q2 : w1.cell? ⟨Q, 2, none⟩ = _ := cell_of Y1 2
  have p3 : w1.cell? ⟨P, 3, none⟩ = _ := cell_of X1 3
  have q3 : w1.cell? ⟨Q, 3, none⟩ = _ := cell_of Y1 3
  have p4 : w1.cell? ⟨P, 4, none⟩ = _ := cell_of X1 4
  have q4 : w1.cell? ⟨Q, 4, none⟩ = _ := cell_of Y1 4
  have p5 : w1.cell? ⟨P, 5, none⟩ = _ := cell_of X1 5
  have q5 : w1.cell? ⟨Q, 5, none⟩ = _ := cell_of Y1 5
  have HN := keepH hn
  have HM := keepH hm
  have HW1 := keepH hw1
  have HP := keepH hPP
  have HQ := keepH hQQ
  have HB1 := keepH B1
  have HS := keepH hS
  have HT := keepH (hT.on B1)
  have HT2 := keepH (hT'.on B1)
  have HI := keepH (hP.on B1)
  have HI2 := keepH (hP'.on B1)
  clear hn hm hw1 hPP hQQ B1 X1 Y1 hS hT hT' hP hP' h1 h2 h3 h4
  go_enter Tryz.func20, Tryz.ntmps20
  go_upto_region 1 with fail
  rw [← HW1.out, ← HQ.out, ← HP.out]
  go_wp2_with fail
  go_loopw [5] (fun s5 wr => ∃ i : Nat, i ≤ m ∧ s5 = .int .i64 (i : Int) ∧ Hid (Below w1.heap.size w1 wr)) (fun s5 _ => m - (intOf s5).toNat)
  case atStart => exact ⟨0, by omega, rfl, keepH (Below.refl _ _)⟩
  case round =>
    obtain ⟨i, hi, rfl, HBW⟩ := hrel
    have p5 : wr.cell? ⟨P, 5, none⟩ = some (.slice pp m pc) := cell_below p5 HBW.out
    have q5 : wr.cell? ⟨Q, 5, none⟩ = some (.slice pp' m pc') := cell_below q5 HBW.out
    clear p0 p1 p2 p3 p4 q0 q1 q2 q3 q4
    by_cases hlt : i < m
    · have r1 : (i : Int) < (m : Int) := by omega
      have r0 : (0 : Int) ≤ (i : Int) := by omega
      have r1n : i < m := hlt
      obtain ⟨x, hx⟩ : ∃ x, ps[i]? = some x := ⟨ps[i]'(by have := HM.out; omega), List.getElem?_eq_getElem _⟩
      obtain ⟨bk, off, rfl, hbk, c0⟩ := (HI.out.on HBW.out).get i x hx
      obtain ⟨bk2, off2, rfl, hbk2, c1⟩ := (HI2.out.on HBW.out).get i x hx
      have qx : (x != x) = false := by simp
      clear hx hbk hbk2
      go_upto_region 6 with fail
      go_quiet (fail)
      go_wp2_with fail
      go_roundw
      case rel => exact ⟨i + 1, by omega, by first | rfl | go_num, keepH (below_drewN HBW.out _)⟩
      case measure => simp [intOf]; omega
    · obtain rfl : i = m := by omega
      have r1 : ¬ (i : Int) < (i : Int) := by omega
      clear q5
      go_wp2_with fail
      clear p5
      go_loopw [6, 7] (fun s6 s7 wr => ∃ i : Nat, i ≤ n ∧ s6 = .int .i64 (i : Int) ∧ Hid (Below w1.heap.size w1 wr)) (fun s6 _ _ => n - (intOf s6).toNat)
      case atStart => exact ⟨0, by omega, rfl, HBW⟩
      case round =>
        clear HBW
        obtain ⟨i, hi, rfl, HBW⟩ := hrel
        have p4 := HP4.out wr HBW.out
        have q4 := HQ4.out wr HBW.out
        by_cases hlt : i < n
        · have r1 : (i : Int) < (n : Int) := by omega
          have r1n : i < n := hlt
          have r0 : (0 : Int) ≤ (i : Int) := by omega
          obtain ⟨l, hl⟩ : ∃ l, ts[i]? = some l := ⟨ts[i]'(by have := HN.out; omega), List.getElem?_eq_getElem _⟩
          obtain ⟨bk, off, lp, lc, rfl, hbk, hO, c0⟩ := (HT.out.on HBW.out).get i l hl
          obtain ⟨bk2, off2, lp2, lc2, rfl, hbk2, hO2, c1⟩ := (HT2.out.on HBW.out).get i l hl
          obtain ⟨k, hk⟩ : ∃ k, k = l.length := ⟨_, rfl⟩
          have hk1 := HS.out.ll l (List.mem_of_getElem? hl)
          rw [← hk] at c0 c1 hk1
          have qk : ((k : Int) != (k : Int)) = false := by simp
          have HX := keepH hl
          have HK := keepH hk
          have HO := keepH hO
          have HO2 := keepH hO2
          obtain ⟨wo, hwo⟩ : ∃ wo, wo = wr := ⟨_, rfl⟩
          subst hwo
          have HC0 : Hid (∀ w, Below wo.heap.size wo w → w.cell? ⟨bk, off + i, none⟩ = some (.slice lp k lc)) := keepH (fun w hb => cell_below c0 hb)
          have HC1 : Hid (∀ w, Below wo.heap.size wo w → w.cell? ⟨bk2, off2 + i, none⟩ = some (.slice lp2 k lc2)) := keepH (fun w hb => cell_below c1 hb)
          clear hl hk hbk hO hbk2 hO2
          go_upto_region 11 with fail
          go_quiet (fail)
          go_wp2_with fail
          go_loopw [7] (fun s7 wr => ∃ j : Nat, j ≤ k ∧ s7 = .int .i64 (j : Int) ∧ Hid (Below wo.heap.size wo wr)) (fun s7 _ => k - (intOf s7).toNat)
          case atStart => exact ⟨0, by omega, rfl, keepH (below_drewN (Below.refl _ _) _)⟩
          case round =>
            clear p4 q4 c0 c1
            obtain ⟨j, hj, rfl, HBX⟩ := hrel
            have p4 := HP4.out wr (below_chain HBW.out HBX.out)
            have c0 := HC0.out wr HBX.out
            by_cases hlj : j < k
            · have s1 : (j : Int) < (k : Int) := by omega
              have s0 : (0 : Int) ≤ (j : Int) := by omega
              have s1n : j < k := hlj
              obtain ⟨o, ho⟩ : ∃ o, l[j]? = some o := ⟨l[j]'(by have := HK.out; omega), List.getElem?_eq_getElem _⟩
              obtain ⟨xb, xo, kp, kc, rfl, hxb, hKR, a0, a1, a2, a3, a4, a5, a6, a7, a8, a9, a10⟩ := (HO.out.on HBX.out).get j o ho
              obtain ⟨yb, yo, kp2, kc2, rfl, hyb, hKR2, b0, b1, b2, b3, b4, b5, b6, b7, b8, b9, b10⟩ := (HO2.out.on HBX.out).get j o ho
              have hoo := HS.out.ok l (List.mem_of_getElem? HX.out) o (List.mem_of_getElem? ho)
              obtain ⟨ok, key, val, old, hnd, set, rt, ri, keys, lo, hi2⟩ := o
              simp only at a0 a1 a2 a3 a4 a5 a6 a7 a8 a9 a10 b0 b1 b2 b3 b4 b5 b6 b7 b8 b9 b10 hKR hKR2
              have hso := fun w (hb : Below wr.heap.size wr w) => sameOp_any ok key val old hnd set rt ri kp kp2 kc kc2 lo hi2 keys hoo.1.rt hoo.1.ri hoo.2 w (hKR.on hb) (hKR2.on hb)
              obtain ⟨nk, hnk⟩ : ∃ nk, nk = keys.length := ⟨_, rfl⟩
              rw [← hnk] at a8 b8 hso
              have hall : (fun w => (w.cell? ⟨P, 4, none⟩ = some (.slice (some ⟨bk, off, none⟩) n tc) ∧ w.cell? ⟨bk, off + i, none⟩ = some (.slice (some ⟨xb, xo, none⟩) k lc)) ∧ (w.cell? ⟨Q, 4, none⟩ = some (.slice (some ⟨bk2, off2, none⟩) n tc') ∧ w.cell? ⟨bk2, off2 + i, none⟩ = some (.slice (some ⟨yb, yo, none⟩) k lc2)) ∧ (w.cell? ⟨xb, xo + j * 11, none⟩ = some (.int .u8 (ok : Int)) ∧ w.cell? ⟨xb, xo + j * 11 + 1, none⟩ = some (.int .u64 (key : Int)) ∧ w.cell? ⟨xb, xo + j * 11 + 2, none⟩ = some (.int .u64 (val : Int)) ∧ w.cell? ⟨xb, xo + j * 11 + 3, none⟩ = some (.int .u64 (old : Int)) ∧ w.cell? ⟨xb, xo + j * 11 + 4, none⟩ = some (.int .u64 (hnd : Int)) ∧ w.cell? ⟨xb, xo + j * 11 + 5, none⟩ = some (.bool set) ∧ w.cell? ⟨xb, xo + j * 11 + 6, none⟩ = some (.int .i64 rt) ∧ w.cell? ⟨xb, xo + j * 11 + 7, none⟩ = some (.int .i64 ri) ∧ w.cell? ⟨xb, xo + j * 11 + 8, none⟩ = some (.slice kp nk kc) ∧ w.cell? ⟨xb, xo + j * 11 + 9, none⟩ = some (.int .u64 (lo : Int)) ∧ w.cell? ⟨xb, xo + j * 11 + 10, none⟩ = some (.int .u64 (hi2 : Int))) ∧ (w.cell? ⟨yb, yo + j * 11, none⟩ = some (.int .u8 (ok : Int)) ∧ w.cell? ⟨yb, yo + j * 11 + 1, none⟩ = some (.int .u64 (key : Int)) ∧ w.cell? ⟨yb, yo + j * 11 + 2, none⟩ = some (.int .u64 (val : Int)) ∧ w.cell? ⟨yb, yo + j * 11 + 3, none⟩ = some (.int .u64 (old : Int)) ∧ w.cell? ⟨yb, yo + j * 11 + 4, none⟩ = some (.int .u64 (hnd : Int)) ∧ w.cell? ⟨yb, yo + j * 11 + 5, none⟩ = some (.bool set) ∧ w.cell? ⟨yb, yo + j * 11 + 6, none⟩ = some (.int .i64 rt) ∧ w.cell? ⟨yb, yo + j * 11 + 7, none⟩ = some (.int .i64 ri) ∧ w.cell? ⟨yb, yo + j * 11 + 8, none⟩ = some (.slice kp2 nk kc2) ∧ w.cell? ⟨yb, yo + j * 11 + 9, none⟩ = some (.int .u64 (lo : Int)) ∧ w.cell? ⟨yb, yo + j * 11 + 10, none⟩ = some (.int .u64 (hi2 : Int)))) wr := ⟨⟨p4, c0⟩, ⟨HQ4.out wr (below_chain HBW.out HBX.out), HC1.out wr HBX.out⟩, ⟨a0, a1, a2, a3, a4, a5, a6, a7, a8, a9, a10⟩, ⟨b0, b1, b2, b3, b4, b5, b6, b7, b8, b9, b10⟩⟩
              have HK0 : Hid ((fun w => (w.cell? ⟨P, 4, none⟩ = some (.slice (some ⟨bk, off, none⟩) n tc) ∧ w.cell? ⟨bk, off + i, none⟩ = some (.slice (some ⟨xb, xo, none⟩) k lc)) ∧ (w.cell? ⟨Q, 4, none⟩ = some (.slice (some ⟨bk2, off2, none⟩) n tc') ∧ w.cell? ⟨bk2, off2 + i, none⟩ = some (.slice (some ⟨yb, yo, none⟩) k lc2)) ∧ (w.cell? ⟨xb, xo + j * 11, none⟩ = some (.int .u8 (ok : Int)) ∧ w.cell? ⟨xb, xo + j * 11 + 1, none⟩ = some (.int .u64 (key : Int)) ∧ w.cell? ⟨xb, xo + j * 11 + 2, none⟩ = some (.int .u64 (val : Int)) ∧ w.cell? ⟨xb, xo + j * 11 + 3, none⟩ = some (.int .u64 (old : Int)) ∧ w.cell? ⟨xb, xo + j * 11 + 4, none⟩ = some (.int .u64 (hnd : Int)) ∧ w.cell? ⟨xb, xo + j * 11 + 5, none⟩ = some (.bool set) ∧ w.cell? ⟨xb, xo + j * 11 + 6, none⟩ = some (.int .i64 rt) ∧ w.cell? ⟨xb, xo + j * 11 + 7, none⟩ = some (.int .i64 ri) ∧ w.cell? ⟨xb, xo + j * 11 + 8, none⟩ = some (.slice kp nk kc) ∧ w.cell? ⟨xb, xo + j * 11 + 9, none⟩ = some (.int .u64 (lo : Int)) ∧ w.cell? ⟨xb, xo + j * 11 + 10, none⟩ = some (.int .u64 (hi2 : Int))) ∧ (w.cell? ⟨yb, yo + j * 11, none⟩ = some (.int .u8 (ok : Int)) ∧ w.cell? ⟨yb, yo + j * 11 + 1, none⟩ = some (.int .u64 (key : Int)) ∧ w.cell? ⟨yb, yo + j * 11 + 2, none⟩ = some (.int .u64 (val : Int)) ∧ w.cell? ⟨yb, yo + j * 11 + 3, none⟩ = some (.int .u64 (old : Int)) ∧ w.cell? ⟨yb, yo + j * 11 + 4, none⟩ = some (.int .u64 (hnd : Int)) ∧ w.cell? ⟨yb, yo + j * 11 + 5, none⟩ = some (.bool set) ∧ w.cell? ⟨yb, yo + j * 11 + 6, none⟩ = some (.int .i64 rt) ∧ w.cell? ⟨yb, yo + j * 11 + 7, none⟩ = some (.int .i64 ri) ∧ w.cell? ⟨yb, yo + j * 11 + 8, none⟩ = some (.slice kp2 nk kc2) ∧ w.cell? ⟨yb, yo + j * 11 + 9, none⟩ = some (.int .u64 (lo : Int)) ∧ w.cell? ⟨yb, yo + j * 11 + 10, none⟩ = some (.int .u64 (hi2 : Int)))) wr.drew) := keepH hall
              have HKE : Hid (∀ w, Below wr.heap.size wr w → (fun w => (w.cell? ⟨P, 4, none⟩ = some (.slice (some ⟨bk, off, none⟩) n tc) ∧ w.cell? ⟨bk, off + i, none⟩ = some (.slice (some ⟨xb, xo, none⟩) k lc)) ∧ (w.cell? ⟨Q, 4, none⟩ = some (.slice (some ⟨bk2, off2, none⟩) n tc') ∧ w.cell? ⟨bk2, off2 + i, none⟩ = some (.slice (some ⟨yb, yo, none⟩) k lc2)) ∧ (w.cell? ⟨xb, xo + j * 11, none⟩ = some (.int .u8 (ok : Int)) ∧ w.cell? ⟨xb, xo + j * 11 + 1, none⟩ = some (.int .u64 (key : Int)) ∧ w.cell? ⟨xb, xo + j * 11 + 2, none⟩ = some (.int .u64 (val : Int)) ∧ w.cell? ⟨xb, xo + j * 11 + 3, none⟩ = some (.int .u64 (old : Int)) ∧ w.cell? ⟨xb, xo + j * 11 + 4, none⟩ = some (.int .u64 (hnd : Int)) ∧ w.cell? ⟨xb, xo + j * 11 + 5, none⟩ = some (.bool set) ∧ w.cell? ⟨xb, xo + j * 11 + 6, none⟩ = some (.int .i64 rt) ∧ w.cell? ⟨xb, xo + j * 11 + 7, none⟩ = some (.int .i64 ri) ∧ w.cell? ⟨xb, xo + j * 11 + 8, none⟩ = some (.slice kp nk kc) ∧ w.cell? ⟨xb, xo + j * 11 + 9, none⟩ = some (.int .u64 (lo : Int)) ∧ w.cell? ⟨xb, xo + j * 11 + 10, none⟩ = some (.int .u64 (hi2 : Int))) ∧ (w.cell? ⟨yb, yo + j * 11, none⟩ = some (.int .u8 (ok : Int)) ∧ w.cell? ⟨yb, yo + j * 11 + 1, none⟩ = some (.int .u64 (key : Int)) ∧ w.cell? ⟨yb, yo + j * 11 + 2, none⟩ = some (.int .u64 (val : Int)) ∧ w.cell? ⟨yb, yo + j * 11 + 3, none⟩ = some (.int .u64 (old : Int)) ∧ w.cell? ⟨yb, yo + j * 11 + 4, none⟩ = some (.int .u64 (hnd : Int)) ∧ w.cell? ⟨yb, yo + j * 11 + 5, none⟩ = some (.bool set) ∧ w.cell? ⟨yb, yo + j * 11 + 6, none⟩ = some (.int .i64 rt) ∧ w.cell? ⟨yb, yo + j * 11 + 7, none⟩ = some (.int .i64 ri) ∧ w.cell? ⟨yb, yo + j * 11 + 8, none⟩ = some (.slice kp2 nk kc2) ∧ w.cell? ⟨yb, yo + j * 11 + 9, none⟩ = some (.int .u64 (lo : Int)) ∧ w.cell? ⟨yb, yo + j * 11 + 10, none⟩ = some (.int .u64 (hi2 : Int)))) w) := keepH (fun w hb => by
                obtain ⟨⟨x1, x2⟩, ⟨x3, x4⟩, ⟨z0, z1, z2, z3, z4, z5, z6, z7, z8, z9, z10⟩, ⟨y0, y1, y2, y3, y4, y5, y6, y7, y8, y9, y10⟩⟩ := hall
                exact ⟨⟨cell_below x1 hb, cell_below x2 hb⟩, ⟨cell_below x3 hb, cell_below x4 hb⟩, ⟨cell_below z0 hb, cell_below z1 hb, cell_below z2 hb, cell_below z3 hb, cell_below z4 hb, cell_below z5 hb, cell_below z6 hb, cell_below z7 hb, cell_below z8 hb, cell_below z9 hb, cell_below z10 hb⟩, ⟨cell_below y0 hb, cell_below y1 hb, cell_below y2 hb, cell_below y3 hb, cell_below y4 hb, cell_below y5 hb, cell_below y6 hb, cell_below y7 hb, cell_below y8 hb, cell_below y9 hb, cell_below y10 hb⟩⟩)
              have HSO := keepH hso
              obtain ⟨wx, hwx⟩ : ∃ wx, wx = wr := ⟨_, rfl⟩
              subst hwx
              have HBXo := keepH HBX.out
              have HBX := keepH (Below.refl wx.heap.size wx)
              clear ho hKR hKR2 hxb hyb hnk hoo hso hall a0 a1 a2 a3 a4 a5 a6 a7 a8 a9 a10 b0 b1 b2 b3 b4 b5 b6 b7 b8 b9 b10
              go_upto_region 16 with fail
              clear p4 c0
              refine wp_region_held_drew (S := fun w => (w.cell? ⟨P, 4, none⟩ = some (.slice (some ⟨bk, off, none⟩) n tc) ∧ w.cell? ⟨bk, off + i, none⟩ = some (.slice (some ⟨xb, xo, none⟩) k lc)) ∧ (w.cell? ⟨Q, 4, none⟩ = some (.slice (some ⟨bk2, off2, none⟩) n tc') ∧ w.cell? ⟨bk2, off2 + i, none⟩ = some (.slice (some ⟨yb, yo, none⟩) k lc2)) ∧ (w.cell? ⟨xb, xo + j * 11, none⟩ = some (.int .u8 (ok : Int)) ∧ w.cell? ⟨xb, xo + j * 11 + 1, none⟩ = some (.int .u64 (key : Int)) ∧ w.cell? ⟨xb, xo + j * 11 + 2, none⟩ = some (.int .u64 (val : Int)) ∧ w.cell? ⟨xb, xo + j * 11 + 3, none⟩ = some (.int .u64 (old : Int)) ∧ w.cell? ⟨xb, xo + j * 11 + 4, none⟩ = some (.int .u64 (hnd : Int)) ∧ w.cell? ⟨xb, xo + j * 11 + 5, none⟩ = some (.bool set) ∧ w.cell? ⟨xb, xo + j * 11 + 6, none⟩ = some (.int .i64 rt) ∧ w.cell? ⟨xb, xo + j * 11 + 7, none⟩ = some (.int .i64 ri) ∧ w.cell? ⟨xb, xo + j * 11 + 8, none⟩ = some (.slice kp nk kc) ∧ w.cell? ⟨xb, xo + j * 11 + 9, none⟩ = some (.int .u64 (lo : Int)) ∧ w.cell? ⟨xb, xo + j * 11 + 10, none⟩ = some (.int .u64 (hi2 : Int))) ∧ (w.cell? ⟨yb, yo + j * 11, none⟩ = some (.int .u8 (ok : Int)) ∧ w.cell? ⟨yb, yo + j * 11 + 1, none⟩ = some (.int .u64 (key : Int)) ∧ w.cell? ⟨yb, yo + j * 11 + 2, none⟩ = some (.int .u64 (val : Int)) ∧ w.cell? ⟨yb, yo + j * 11 + 3, none⟩ = some (.int .u64 (old : Int)) ∧ w.cell? ⟨yb, yo + j * 11 + 4, none⟩ = some (.int .u64 (hnd : Int)) ∧ w.cell? ⟨yb, yo + j * 11 + 5, none⟩ = some (.bool set) ∧ w.cell? ⟨yb, yo + j * 11 + 6, none⟩ = some (.int .i64 rt) ∧ w.cell? ⟨yb, yo + j * 11 + 7, none⟩ = some (.int .i64 ri) ∧ w.cell? ⟨yb, yo + j * 11 + 8, none⟩ = some (.slice kp2 nk kc2) ∧ w.cell? ⟨yb, yo + j * 11 + 9, none⟩ = some (.int .u64 (lo : Int)) ∧ w.cell? ⟨yb, yo + j * 11 + 10, none⟩ = some (.int .u64 (hi2 : Int)))) (by kernel_rfl) (HK0.out) ?_
              intro hHeld
              refine wpAnyH_take (i := 0) (v := ?_) rfl (by kernel_rfl) (by kernel_rfl) (by kernel_rfl) (fun _ _ _ h => h) (Or.inl ⟨by rfl, ?_⟩) hHeld ?_
              rotate_left
              · intro w hSw
                (try dsimp only at hSw)
                go_simp
                try with_reducible rfl
              (try simp only [Act.put]); (try simp only [List.setIfInBounds_toArray]); (try simp only [List.getElem_toArray]); (repeat (first | simp only [List.getElem_cons_succ] | simp only [List.getElem_cons_zero])); (repeat (first | simp only [List.set_cons_succ] | simp only [List.set_cons_zero]))
              refine wpAnyH_take (i := 1) (v := ?_) rfl (by kernel_rfl) (by kernel_rfl) (by kernel_rfl) (fun _ _ _ h => h) (Or.inl ⟨by rfl, ?_⟩) hHeld ?_
              rotate_left
              · intro w hSw
                (try dsimp only at hSw)
                have y0 := hSw.1.1
                go_simp
                try with_reducible rfl
              (try simp only [Act.put]); (try simp only [List.setIfInBounds_toArray]); (try simp only [List.getElem_toArray]); (repeat (first | simp only [List.getElem_cons_succ] | simp only [List.getElem_cons_zero])); (repeat (first | simp only [List.set_cons_succ] | simp only [List.set_cons_zero]))
              refine wpAnyH_take (i := 2) (v := ?_) rfl (by kernel_rfl) (by kernel_rfl) (by kernel_rfl) (fun _ _ _ h => h) (Or.inl ⟨by rfl, ?_⟩) hHeld ?_
              rotate_left
              · intro w hSw
                (try dsimp only at hSw)
                go_simp
                try with_reducible rfl
              (try simp only [Act.put]); (try simp only [List.setIfInBounds_toArray]); (try simp only [List.getElem_toArray]); (repeat (first | simp only [List.getElem_cons_succ] | simp only [List.getElem_cons_zero])); (repeat (first | simp only [List.set_cons_succ] | simp only [List.set_cons_zero]))
              refine wpAnyH_take (i := 3) (v := ?_) rfl (by kernel_rfl) (by kernel_rfl) (by kernel_rfl) (fun _ _ _ h => h) (Or.inl ⟨by rfl, ?_⟩) hHeld ?_
              rotate_left
              · intro w hSw
                (try dsimp only at hSw)
                go_simp
                try with_reducible rfl
              (try simp only [Act.put]); (try simp only [List.setIfInBounds_toArray]); (try simp only [List.getElem_toArray]); (repeat (first | simp only [List.getElem_cons_succ] | simp only [List.getElem_cons_zero])); (repeat (first | simp only [List.set_cons_succ] | simp only [List.set_cons_zero]))
              refine wpAnyH_take (i := 4) (v := ?_) rfl (by kernel_rfl) (by kernel_rfl) (by kernel_rfl) (fun _ _ _ h => h) (Or.inl ⟨by rfl, ?_⟩) hHeld ?_
              rotate_left
              · intro w hSw
                (try dsimp only at hSw)
                have y0 := hSw.1.2
                go_simp
                try with_reducible rfl
              (try simp only [Act.put]); (try simp only [List.setIfInBounds_toArray]); (try simp only [List.getElem_toArray]); (repeat (first | simp only [List.getElem_cons_succ] | simp only [List.getElem_cons_zero])); (repeat (first | simp only [List.set_cons_succ] | simp only [List.set_cons_zero]))
              refine wpAnyH_take (i := 5) (v := ?_) rfl (by kernel_rfl) (by kernel_rfl) (by kernel_rfl) (fun _ _ _ h => h) (Or.inl ⟨by rfl, ?_⟩) hHeld ?_
              rotate_left
              · intro w hSw
                (try dsimp only at hSw)
                go_simp
                try with_reducible rfl
              (try simp only [Act.put]); (try simp only [List.setIfInBounds_toArray]); (try simp only [List.getElem_toArray]); (repeat (first | simp only [List.getElem_cons_succ] | simp only [List.getElem_cons_zero])); (repeat (first | simp only [List.set_cons_succ] | simp only [List.set_cons_zero]))
              refine wpAnyH_take (i := 6) (v := ?_) rfl (by kernel_rfl) (by kernel_rfl) (by kernel_rfl) (fun _ _ _ h => h) (Or.inl ⟨by rfl, ?_⟩) hHeld ?_
              rotate_left
              · intro w hSw
                (try dsimp only at hSw)
                go_simp
                try with_reducible rfl
              (try simp only [Act.put]); (try simp only [List.setIfInBounds_toArray]); (try simp only [List.getElem_toArray]); (repeat (first | simp only [List.getElem_cons_succ] | simp only [List.getElem_cons_zero])); (repeat (first | simp only [List.set_cons_succ] | simp only [List.set_cons_zero]))
              refine wpAnyH_take (i := 7) (v := ?_) rfl (by kernel_rfl) (by kernel_rfl) (by kernel_rfl) (fun _ _ _ h => h) (Or.inl ⟨by rfl, ?_⟩) hHeld ?_
              rotate_left
              · intro w hSw
                (try dsimp only at hSw)
                obtain ⟨y0, y1, y2, y3, y4, y5, y6, y7, y8, y9, y10⟩ := hSw.2.2.1
                go_simp
                try with_reducible rfl
              (try simp only [Act.put]); (try simp only [List.setIfInBounds_toArray]); (try simp only [List.getElem_toArray]); (repeat (first | simp only [List.getElem_cons_succ] | simp only [List.getElem_cons_zero])); (repeat (first | simp only [List.set_cons_succ] | simp only [List.set_cons_zero]))
              refine wpAnyH_take (i := 8) (v := ?_) rfl (by kernel_rfl) (by kernel_rfl) (by kernel_rfl) (fun _ _ _ h => h) (Or.inl ⟨by rfl, ?_⟩) hHeld ?_
              rotate_left
              · intro w hSw
                (try dsimp only at hSw)
                go_simp
                try with_reducible rfl
              (try simp only [Act.put]); (try simp only [List.setIfInBounds_toArray]); (try simp only [List.getElem_toArray]); (repeat (first | simp only [List.getElem_cons_succ] | simp only [List.getElem_cons_zero])); (repeat (first | simp only [List.set_cons_succ] | simp only [List.set_cons_zero]))
              refine wpAnyH_take (i := 9) (v := ?_) rfl (by kernel_rfl) (by kernel_rfl) (by kernel_rfl) (fun _ _ _ h => h) (Or.inl ⟨by rfl, ?_⟩) hHeld ?_
              rotate_left
              · intro w hSw
                (try dsimp only at hSw)
                have y0 := hSw.2.1.1
                go_simp
                try with_reducible rfl
              (try simp only [Act.put]); (try simp only [List.setIfInBounds_toArray]); (try simp only [List.getElem_toArray]); (repeat (first | simp only [List.getElem_cons_succ] | simp only [List.getElem_cons_zero])); (repeat (first | simp only [List.set_cons_succ] | simp only [List.set_cons_zero]))
              refine wpAnyH_take (i := 10) (v := ?_) rfl (by kernel_rfl) (by kernel_rfl) (by kernel_rfl) (fun _ _ _ h => h) (Or.inl ⟨by rfl, ?_⟩) hHeld ?_
              rotate_left
              · intro w hSw
                (try dsimp only at hSw)
                go_simp
                try with_reducible rfl
              (try simp only [Act.put]); (try simp only [List.setIfInBounds_toArray]); (try simp only [List.getElem_toArray]); (repeat (first | simp only [List.getElem_cons_succ] | simp only [List.getElem_cons_zero])); (repeat (first | simp only [List.set_cons_succ] | simp only [List.set_cons_zero]))
              refine wpAnyH_take (i := 11) (v := ?_) rfl (by kernel_rfl) (by kernel_rfl) (by kernel_rfl) (fun _ _ _ h => h) (Or.inl ⟨by rfl, ?_⟩) hHeld ?_
              rotate_left
              · intro w hSw
                (try dsimp only at hSw)
                go_simp
                try with_reducible rfl
              (try simp only [Act.put]); (try simp only [List.setIfInBounds_toArray]); (try simp only [List.getElem_toArray]); (repeat (first | simp only [List.getElem_cons_succ] | simp only [List.getElem_cons_zero])); (repeat (first | simp only [List.set_cons_succ] | simp only [List.set_cons_zero]))
              refine wpAnyH_take (i := 12) (v := ?_) rfl (by kernel_rfl) (by kernel_rfl) (by kernel_rfl) (fun _ _ _ h => h) (Or.inl ⟨by rfl, ?_⟩) hHeld ?_
              rotate_left
              · intro w hSw
                (try dsimp only at hSw)
                have y0 := hSw.2.1.2
                go_simp
                try with_reducible rfl
              (try simp only [Act.put]); (try simp only [List.setIfInBounds_toArray]); (try simp only [List.getElem_toArray]); (repeat (first | simp only [List.getElem_cons_succ] | simp only [List.getElem_cons_zero])); (repeat (first | simp only [List.set_cons_succ] | simp only [List.set_cons_zero]))
              refine wpAnyH_take (i := 13) (v := ?_) rfl (by kernel_rfl) (by kernel_rfl) (by kernel_rfl) (fun _ _ _ h => h) (Or.inl ⟨by rfl, ?_⟩) hHeld ?_
              rotate_left
              · intro w hSw
                (try dsimp only at hSw)
                go_simp
                try with_reducible rfl
              (try simp only [Act.put]); (try simp only [List.setIfInBounds_toArray]); (try simp only [List.getElem_toArray]); (repeat (first | simp only [List.getElem_cons_succ] | simp only [List.getElem_cons_zero])); (repeat (first | simp only [List.set_cons_succ] | simp only [List.set_cons_zero]))
              refine wpAnyH_take (i := 14) (v := ?_) rfl (by kernel_rfl) (by kernel_rfl) (by kernel_rfl) (fun _ _ _ h => h) (Or.inl ⟨by rfl, ?_⟩) hHeld ?_
              rotate_left
              · intro w hSw
                (try dsimp only at hSw)
                go_simp
                try with_reducible rfl
              (try simp only [Act.put]); (try simp only [List.setIfInBounds_toArray]); (try simp only [List.getElem_toArray]); (repeat (first | simp only [List.getElem_cons_succ] | simp only [List.getElem_cons_zero])); (repeat (first | simp only [List.set_cons_succ] | simp only [List.set_cons_zero]))
              refine wpAnyH_take (i := 15) (v := ?_) rfl (by kernel_rfl) (by kernel_rfl) (by kernel_rfl) (fun _ _ _ h => h) (Or.inl ⟨by rfl, ?_⟩) hHeld ?_
              rotate_left
              · intro w hSw
                (try dsimp only at hSw)
                obtain ⟨y0, y1, y2, y3, y4, y5, y6, y7, y8, y9, y10⟩ := hSw.2.2.2
                go_simp
                try with_reducible rfl
              (try simp only [Act.put]); (try simp only [List.setIfInBounds_toArray]); (try simp only [List.getElem_toArray]); (repeat (first | simp only [List.getElem_cons_succ] | simp only [List.getElem_cons_zero])); (repeat (first | simp only [List.set_cons_succ] | simp only [List.set_cons_zero]))
              refine wpAnyH_ready (rs := [16]) (by kernel_rfl) (by simp) ?_
              refine AllReadyH.cons rfl (fun KK hKK => ?_) AllReadyH.nil
              go_simp
              refine (HSO.out _ (below_drewN HBX.out 1)).mono ?_
              rintro e w8 ⟨rfl, D9⟩
              have HB8 := keepH (below_chain (below_drewN HBX.out 1) D9)
              have hcc := HKE.out w8 HB8.out
              clear D9
              refine hKK.out _ _ ?_ (fun hHeld => ?_)
              · exact hcc
              clear hKK KK
              (try simp only [Act.put]); (try simp only [List.setIfInBounds_toArray]); (try simp only [List.getElem_toArray]); (repeat (first | simp only [List.getElem_cons_succ] | simp only [List.getElem_cons_zero])); (repeat (first | simp only [List.set_cons_succ] | simp only [List.set_cons_zero]))
              refine wpAnyH_take (i := 17) (v := ?_) rfl (by kernel_rfl) (by kernel_rfl) (by kernel_rfl) (fun _ _ _ h => h) (Or.inl ⟨by rfl, ?_⟩) hHeld ?_
              rotate_left
              · intro w hSw
                (try dsimp only at hSw)
                go_simp
                try with_reducible rfl
              (try simp only [Act.put]); (try simp only [List.setIfInBounds_toArray]); (try simp only [List.getElem_toArray]); (repeat (first | simp only [List.getElem_cons_succ] | simp only [List.getElem_cons_zero])); (repeat (first | simp only [List.set_cons_succ] | simp only [List.set_cons_zero]))
              refine wpAnyH_done (by kernel_rfl) ?_ _
              go_simp
              clear hHeld
              go_wp2_with fail
              go_roundw
              case rel => exact ⟨j + 1, by omega, by first | rfl | go_num, keepH (below_chain HBXo.out HB8.out)⟩
              case measure => simp [intOf]; omega
            · obtain rfl : j = k := by omega
              have s1 : ¬ (j : Int) < (j : Int) := by omega
              have HB8 := keepH (below_chain HBW.out HBX.out)
              go_wp2_with fail
              go_roundw
              case rel => exact ⟨i + 1, by omega, by first | rfl | go_num, HB8⟩
              case measure => simp [intOf]; omega
        · obtain rfl : i = n := by omega
          have r1 : ¬ (i : Int) < (i : Int) := by omega
          have HB8 := keepH (below_chain HB1.out HBW.out)
          go_wp2_with fail
          go_ret
          exact ⟨rfl, HB8.out⟩
end Go.Proofs.YtmmaniolaljjlaaGreatDoor
/- What must be whatever is asked of a script's lines. -/
namespace Go.Proofs.YtmmaniolaljjlaaGreatDoor
open Go.RowKit Go.Shelf
set_option linter.unusedVariables false

theorem u_small (n : Nat) (h : n < 1000) : isU n := by unfold isU; omega
theorem i_small (n : Int) (h : 0 ≤ n ∧ n < 1000) : isI n := ⟨by omega, by omega⟩
def relO : Opx := ⟨6, 0, 0, 0, 0, true, 0, 2, [], 0, 0⟩
theorem rel_right : rightO relO := ⟨⟨by decide, u_small _ (by decide), u_small _ (by decide), u_small _ (by decide), u_small _ (by decide), i_small _ (by decide), i_small _ (by decide), fun u hu => by simp [relO] at hu, u_small _ (by decide), u_small _ (by decide)⟩, by decide⟩
theorem rel_text : [114, 101, 108, 101, 97, 115, 101, 32, 64, 48, 46, 50] = textO relO := by decide +kernel
theorem put_text : opT 2 7 1 0 0 false 0 0 [] 0 0 = [112, 117, 116, 32, 55, 32, 49] := by decide +kernel
theorem put_fault : faultN 2 7 1 0 0 false 0 0 none 0 0 0 0 = 0 := by decide +kernel
theorem rel_ref (w : World) : (binOp .eql 25 (refV true 0 2) (refV true 0 2)).run Tryz.prog w = .ok (.bool true) w := by
  have h := ref_eql true 0 2 true 0 2 (i_small _ (by decide)) (i_small _ (by decide)) (i_small _ (by decide)) (i_small _ (by decide)) w
  simp only [binOp, go_sem]
  simp [h, Result.andThen]
set_option maxRecDepth 100000 in
set_option maxHeartbeats 4000000 in
theorem sLive_any (W : World) (hW : Wd W) (T : Tb W) : Calls Tryz.prog 11 #[] W fun e W' => e = .returned (.bool true) ∧ Below W.heap.size W W' := by
  have HP := keepH (printOp_any 2 7 1 0 0 false 0 0 none 0 0 0 [] (by decide) (u_small _ (by decide)) (u_small _ (by decide)) (u_small _ (by decide)) (u_small _ (by decide)) (u_small _ (by decide)) (u_small _ (by decide)) (i_small _ (by decide)) (i_small _ (by decide)) (fun u hu => by simp at hu) (by simp) W hW T (.inl rfl))
  have HQ := keepH (fun w (hb : Below W.heap.size W w) => parseOp_any [114, 101, 108, 101, 97, 115, 101, 32, 64, 48, 46, 50] (by decide) w (hW.on hb) (T.on hb))
  have hrr := rel_ref
  have hss : ((⟨#[112, 117, 116, 32, 55, 32, 49]⟩ : ByteArray).toList == (⟨#[112, 117, 116, 32, 55, 32, 49]⟩ : ByteArray).toList) = true := by simp
  clear hW T
  go_enter Tryz.func11, Tryz.ntmps11
  go_wp2_with fail
  refine HP.out.mono ?_
  rintro e w1 ⟨E, hE, rfl, B1⟩
  have hE0 : E = 0 := hE.trans put_fault
  subst hE0
  rw [if_pos rfl, put_text]
  have HB1 := keepH B1
  have HQ1 := keepH (HQ.out w1 B1)
  clear hE B1
  go_wp2_with fail
  refine HQ1.out.mono ?_
  rintro e w2 ⟨ok, o, kp, kc, rfl, hpq, hku, hzo, B2⟩
  obtain ⟨rfl, rfl⟩ := hpq.2 relO rel_right rel_text
  have HB2 := keepH (below_chain HB1.out B2)
  clear hpq hku hzo B2
  simp only [opV, relO]
  obtain ⟨w4, hw4⟩ : ∃ w4, w4 = w2.alloc (.cells (opR 6 0 0 0 0 true 0 2 (.slice kp 0 kc) 0 0) 28) := ⟨_, rfl⟩
  obtain ⟨Q, hQ⟩ : ∃ Q, Q = w2.heap.size := ⟨_, rfl⟩
  have B4 : Below w2.heap.size w2 w4 := by rw [hw4]; exact below_alloc _ _
  have X4 : w4.heap[Q]? = some (.cells (opR 6 0 0 0 0 true 0 2 (.slice kp 0 kc) 0 0) 28 (0, 0)) := by rw [hw4, hQ]; exact heap_alloc_new _ _
  have HB4 := keepH (below_chain HB2.out B4)
  have HW4 := keepH hw4
  have HQQ := keepH hQ
  have d0 : w4.cell? ⟨Q, 0, none⟩ = _ := cell_of X4 0
  have d5 : w4.cell? ⟨Q, 5, none⟩ = _ := cell_of X4 5
  have d6 : w4.cell? ⟨Q, 6, none⟩ = _ := cell_of X4 6
  have d7 : w4.cell? ⟨Q, 7, none⟩ = _ := cell_of X4 7
  clear hw4 hQ B4 X4
  go_upto_region 3 with fail
  rw [show w2.alloc (.cells #[.int .u8 6, .int .u64 0, .int .u64 0, .int .u64 0, .int .u64 0, .bool true, .int .i64 0, .int .i64 2, .slice kp 0 kc, .int .u64 0, .int .u64 0] 28) = w4 from HW4.out.symm, ← HQQ.out]
  go_wp2_with fail
  go_ret
  exact ⟨by simp, HB4.out⟩
end Go.Proofs.YtmmaniolaljjlaaGreatDoor
/- The law ScriptParses, walked. -/
namespace Go.Proofs.YtmmaniolaljjlaaGreatDoor
open Go.RowKit Go.Shelf Go.Maps
set_option linter.unusedVariables false

def zR : Option Rdg → Rdg
  | none => ⟨0, 0, 0, 0, [], []⟩
  | some x => x
theorem par_rd {t : List UInt8} {x : Rdg} {n : Nat} (h : PaR t (some x) n) : n = 0 ∧ ∃ ls, LnT t ls [] ∧ RdAll none ls (some x) ∧ ¬ longT x.ts x.ps := by
  generalize hs : (some x : Option Rdg) = s at h
  cases h with
  | ok ls y a b c => injection hs with hs; subst hs; exact ⟨rfl, ls, a, b, c⟩
  | long => cases hs
  | line => cases hs
  | rest => cases hs
theorem par_pos {t : List UInt8} {n : Nat} (h : PaR t none n) : 0 < n := by
  generalize hs : (none : Option Rdg) = s at h
  cases h with
  | ok => cases hs
  | long => omega
  | line => omega
  | rest => omega
structure ZOk (x : Rdg) : Prop where
  ce : isI x.ce
  sl : isI x.sl
  stp : isU x.stp
  mu : isI x.mu
  ok : SOk x.ts x.ps
theorem par_ok {t : List UInt8} {z : Option Rdg} {n : Nat} (h : PaR t z n) (ht : t.length ≤ 5000000) : ZOk (zR z) := by
  cases z with
  | none => exact ⟨⟨by decide, by decide⟩, ⟨by decide, by decide⟩, isU0, ⟨by decide, by decide⟩, ⟨by simp [zR], by simp [zR], fun l hl => by simp [zR] at hl, fun l hl => by simp [zR] at hl, fun x hx => by simp [zR] at hx⟩⟩
  | some x =>
    obtain ⟨_, ls, a, b, _⟩ := par_rd h
    have hg := rd_good0 b
    have hk := (msS_rd (i := ls.length) a (by rw [List.take_length]; exact b) ht).2
    exact ⟨hg.ce, hg.sl, hg.stp, hg.mu, hk⟩
end Go.Proofs.YtmmaniolaljjlaaGreatDoor
/- The pairs of an answer as a line, by the program. (mkSdd.py) -/
namespace Go.Proofs.YtmmaniolaljjlaaGreatDoor
open Go.RowKit Go.Shelf Go.Maps
set_option linter.unusedVariables false

def PRd (W : World) (p : Option Addr) (l : List (Nat × Nat)) : Prop :=
  l = [] ∨ ∃ bk off, p = some ⟨bk, off, none⟩ ∧ bk < W.heap.size ∧ ∀ (i x y : Nat), l[i]? = some (x, y) → W.cell? ⟨bk, off + i * 2, none⟩ = some (.int .u64 (x : Int)) ∧ W.cell? ⟨bk, off + i * 2 + 1, none⟩ = some (.int .u64 (y : Int))
theorem PRd.get {W : World} {p : Option Addr} {l : List (Nat × Nat)} (h : PRd W p l) (i x y : Nat) (hx : l[i]? = some (x, y)) : ∃ bk off, p = some ⟨bk, off, none⟩ ∧ bk < W.heap.size ∧ W.cell? ⟨bk, off + i * 2, none⟩ = some (.int .u64 (x : Int)) ∧ W.cell? ⟨bk, off + i * 2 + 1, none⟩ = some (.int .u64 (y : Int)) := by
  rcases h with rfl | ⟨bk, off, rfl, hb, h⟩
  · simp at hx
  · exact ⟨bk, off, rfl, hb, h i x y hx⟩
theorem PRd.on {W X : World} {p : Option Addr} {l : List (Nat × Nat)} (h : PRd W p l) (hb : Below W.heap.size W X) : PRd X p l := by
  rcases h with rfl | ⟨bk, off, rfl, hl, h⟩
  · exact .inl rfl
  · exact .inr ⟨bk, off, rfl, Nat.lt_of_lt_of_le hl hb.size, fun i x y hx => ⟨cell_below (h i x y hx).1 hb, cell_below (h i x y hx).2 hb⟩⟩
end Go.Proofs.YtmmaniolaljjlaaGreatDoor
/- What comes in: an operation, an answer. (mkSdm.py) -/
namespace Go.Proofs.YtmmaniolaljjlaaGreatDoor
open Go.RowKit Go.Joins Go.ChangeShapes Go.WideShapes Go.Deep
set_option linter.unusedVariables false

theorem bulk_one {H : Type} (d : DataW H) : 1 ≤ Rows.uptoBulk d := by
  cases d with
  | lit l => cases l <;> simp [Rows.uptoBulk]
  | nil => simp [Rows.uptoBulk]
  | ptr d => simp [Rows.uptoBulk]
  | slice elems spare => simp [Rows.uptoBulk]
  | agg parts => simp [Rows.uptoBulk]
  | iface t d => simp [Rows.uptoBulk]
  | map entries => simp [Rows.uptoBulk]
  | held h => simp [Rows.uptoBulk]
theorem cells_each {w : World} {a : Addr} {n : Nat} {cs : List Value} (h : w.cells? 0 a n = some cs) : ∀ j u, cs[j]? = some u → w.cell? (a.add j) = some u := by
  obtain ⟨_, hl, hc⟩ := World.cells?_some h
  intro j u hj
  have hlt : j < n := by
    have := (List.getElem?_eq_some_iff.1 hj).1
    omega
  rw [hc j hlt, hj]
theorem choose_list {α : Type} {P : Nat → α → Prop} (n : Nat) (h : ∀ i, i < n → ∃ a, P i a) : ∃ l : List α, l.length = n ∧ ∀ (i : Nat) (a : α), l[i]? = some a → P i a := by
  induction n with
  | zero => exact ⟨[], rfl, fun i a e => by simp at e⟩
  | succ n ih =>
    obtain ⟨l, hl, hp⟩ := ih (fun i hi => h i (by omega))
    obtain ⟨a, ha⟩ := h n (by omega)
    refine ⟨l ++ [a], by simp [hl], fun i b e => ?_⟩
    by_cases c : i < n
    · rw [List.getElem?_append_left (by omega)] at e
      exact hp i b e
    · have hi : i = n := by
        have := (List.getElem?_eq_some_iff.1 e).1
        simp [hl] at this
        omega
      subst hi
      rw [← hl] at e
      simp at e
      subst e
      exact ha
/-- A list that came in: its elements' cells, each with its bulk. -/
theorem slice_rowsS {H : Type} {enc : TypeId × Value → H} {W : World} {sp : Nat → Bool} {held : Bool} {fuel : Nat} {cs : List Value} {x : DataW H × List MemPlace} {T E : TypeId} {s : Nat} {Q : Nat → List Value → Prop} (hT : Tryz.prog.underlying T = some (.slice E)) (hs : Tryz.prog.cellsOf E = s) (hs0 : 0 < s)
    (hQ : ∀ fuel cs y, DataW.trod enc Tryz.prog W 0 sp held fuel E cs = some y → Q (Rows.uptoBulk y.1) cs ∧ cs.length = s) (hf : DataW.trod enc Tryz.prog W 0 sp held fuel T cs = some x) :
    ∃ p n c, cs = [.slice p n c] ∧ ∃ bu : List Nat, bu.length = n ∧ bu.sum + 1 ≤ Rows.uptoBulk x.1 ∧ (n = 0 ∨ ∃ bk off, p = some ⟨bk, off, none⟩ ∧ bk < W.heap.size ∧ ∀ i, i < n → ∃ cs' : List Value, (∃ w, bu[i]? = some w ∧ Q w cs') ∧ ∀ (j : Nat) (u : Value), cs'[j]? = some u → W.cell? ⟨bk, off + (i * s + j), none⟩ = some u) := by
  rcases open_slice hT hf with ⟨hcs, hx0⟩ | ⟨a, len, cap, m, k, D, Pl, hcs, _, hl, hm, hme, hx, hi⟩
  · exact ⟨none, 0, 0, hcs, [], rfl, by simpa using bulk_one x.1, .inl rfl⟩
  · have hmn : len ≤ m := by rw [hme]; split <;> omega
    have hsum : ∀ (l : List (DataW H)), (l.map Rows.uptoBulk).sum = Rows.uptoBulkAll l := by
      intro l
      induction l with
      | nil => rfl
      | cons d r ih => simp [Rows.uptoBulkAll, ih]
    refine ⟨some a, len, cap, hcs, ((List.range len).map D).map Rows.uptoBulk, by simp, ?_, ?_⟩
    · rw [hsum, hx]
      simp only [Rows.uptoBulk]
      omega
    rcases Nat.eq_zero_or_pos len with h0 | h0
    · exact .inl h0
    · obtain ⟨bk, off, spot⟩ := a
      have hrow : ∀ i, i < len → ∃ cs' : List Value, ((∃ w, (((List.range len).map D).map Rows.uptoBulk)[i]? = some w ∧ Q w cs') ∧ cs'.length = s) ∧ ∀ (j : Nat) (u : Value), cs'[j]? = some u → W.cell? ((⟨bk, off, spot⟩ : Addr).add (i * s + j)) = some u := fun i hin => by
        obtain ⟨cs', hc, ht⟩ := hi i (by omega)
        obtain ⟨q1, q2⟩ := hQ _ _ _ ht
        refine ⟨cs', ⟨⟨_, by simp [hin], q1⟩, q2⟩, fun j u hj => ?_⟩
        rw [hs] at hc
        have e2 := cells_each hc j u hj
        have e3 : ((⟨bk, off, spot⟩ : Addr).add (i * s)).add j = (⟨bk, off, spot⟩ : Addr).add (i * s + j) := by
          unfold Addr.add
          split <;> split <;> simp_all <;> omega
        rw [← e3]
        exact e2
      have h00 : ∃ u, W.cell? ((⟨bk, off, spot⟩ : Addr).add 0) = some u := by
        obtain ⟨cs', ⟨_, hl'⟩, ho⟩ := hrow 0 h0
        obtain ⟨u, hu⟩ : ∃ u, cs'[0]? = some u := ⟨cs'[0]'(by omega), List.getElem?_eq_getElem _⟩
        exact ⟨u, by simpa using ho 0 u hu⟩
      obtain ⟨u, hu⟩ := h00
      have hspot : spot = none := by simpa [Addr.add] using World.cell?_spot hu
      subst hspot
      have hbk : bk < W.heap.size := World.block_lt_of_cell? W _ hu
      refine .inr ⟨bk, off, rfl, hbk, fun i hin => ?_⟩
      obtain ⟨cs', ⟨hq, _⟩, ho⟩ := hrow i hin
      refine ⟨cs', hq, fun j u hj => ?_⟩
      have e := ho j u hj
      unfold Addr.add at e
      split at e
      · rename_i z
        have z0 : i * s + j = 0 := by simpa using z
        rw [z0]
        exact e
      · exact e
theorem nat_u64 {n : Int} (h : (Lit.int .u64 n).wf = true) : ∃ m : Nat, n = (m : Int) ∧ m < 18446744073709551616 := by
  have b := bounds_u64 h
  exact ⟨n.toNat, by omega, by omega⟩
theorem nat_u8 {n : Int} (h : (Lit.int .u8 n).wf = true) : ∃ m : Nat, n = (m : Int) ∧ m < 256 := by
  have b := bounds_u8 h
  exact ⟨n.toNat, by omega, by omega⟩
theorem co_u : Tryz.prog.cellsOf 23 = 1 := by kernel_rfl
theorem co_us : Tryz.prog.cellsOf 26 = 1 := by kernel_rfl
theorem co_i : Tryz.prog.cellsOf 3 = 1 := by kernel_rfl
theorem co_b : Tryz.prog.cellsOf 4 = 1 := by kernel_rfl
theorem vals_open {H : Type} {enc : TypeId × Value → H} {W : World} {sp : Nat → Bool} {held : Bool} {fuel : Nat} {cs : List Value} {x : DataW H × List MemPlace} (h : DataW.trod enc Tryz.prog W 0 sp held fuel 26 cs = some x) :
    ∃ (p : Option Addr) (c : Nat) (l : List Nat), cs = [.slice p l.length c] ∧ KRd W p l ∧ (∀ u ∈ l, isU u) ∧ l.length + 1 ≤ Rows.uptoBulk x.1 := by
  obtain ⟨p, n, c, hcs, bu, hbl, hbs, hr⟩ := slice_rowsS (s := 1) (Q := fun w cs => 1 ≤ w ∧ ∃ k : Nat, k < 18446744073709551616 ∧ cs = [.int .u64 (k : Int)]) Tryz.underlying26 co_u (by decide) (fun fuel cs y hy => by
    obtain ⟨z, e, _, w⟩ := DataW.trod_int Tryz.underlying23 hy
    obtain ⟨k, rfl, hk⟩ := nat_u64 w
    exact ⟨⟨bulk_one _, k, hk, e⟩, by rw [e]; rfl⟩) h
  rcases hr with rfl | ⟨bk, off, rfl, hbk, hr⟩
  · exact ⟨p, c, [], hcs, .inl rfl, fun u hu => by simp at hu, by simpa using bulk_one x.1⟩
  · obtain ⟨l, hl, hp⟩ := choose_list (P := fun i (k : Nat) => (1 ≤ bu.getD i 0) ∧ k < 18446744073709551616 ∧ W.cell? ⟨bk, off + i, none⟩ = some (.int .u64 (k : Int))) n (fun i hi => by
      obtain ⟨cs', ⟨w, hw, h1, k, hk, rfl⟩, hc⟩ := hr i hi
      refine ⟨k, by simp [List.getD, hw]; exact h1, hk, ?_⟩
      have := hc 0 _ rfl
      simpa using this)
    have hsum : ∀ (b : List Nat), (∀ i, i < b.length → 1 ≤ b.getD i 0) → b.length ≤ b.sum := by
      intro b
      induction b with
      | nil => intro _; simp
      | cons z r ih =>
        intro hb
        have h0 := hb 0 (by simp)
        have h1 := ih (fun i hi => by have := hb (i + 1) (by simp; omega); simpa using this)
        simp only [List.length_cons, List.sum_cons]
        simp at h0
        omega
    subst hl
    refine ⟨_, c, l, hcs, .inr ⟨bk, off, rfl, hbk, fun i u hu => (hp i u hu).2.2⟩, fun u hu => ?_, ?_⟩
    · obtain ⟨i, hi, rfl⟩ := List.getElem_of_mem hu
      exact (hp i _ (List.getElem?_eq_getElem hi)).2.1
    · have := hsum bu (fun i hi => by
        rw [hbl] at hi
        exact (hp i l[i] (List.getElem?_eq_getElem hi)).1)
      omega
theorem list3 {α : Type} {cs : List α} (h : cs.length = 3) : ∃ c0 c1 c2, cs = [c0, c1, c2] := by
  match cs, h with
  | [c0, c1, c2], _ => exact ⟨c0, c1, c2, rfl⟩
theorem list9 {α : Type} {cs : List α} (h : cs.length = 9) : ∃ c0 c1 c2 c3 c4 c5 c6 c7 c8, cs = [c0, c1, c2, c3, c4, c5, c6, c7, c8] := by
  match cs, h with
  | [c0, c1, c2, c3, c4, c5, c6, c7, c8], _ => exact ⟨c0, c1, c2, c3, c4, c5, c6, c7, c8, rfl⟩
theorem list11 {α : Type} {cs : List α} (h : cs.length = 11) : ∃ c0 c1 c2 c3 c4 c5 c6 c7 c8 c9 c10, cs = [c0, c1, c2, c3, c4, c5, c6, c7, c8, c9, c10] := by
  match cs, h with
  | [c0, c1, c2, c3, c4, c5, c6, c7, c8, c9, c10], _ => exact ⟨c0, c1, c2, c3, c4, c5, c6, c7, c8, c9, c10, rfl⟩
theorem co_o : Tryz.prog.cellsOf 22 = 1 := by kernel_rfl
theorem co_r : Tryz.prog.cellsOf 25 = 3 := by kernel_rfl
theorem co_op : Tryz.prog.cellsOf 28 = 11 := by kernel_rfl
theorem ref_open {H : Type} {enc : TypeId × Value → H} {W : World} {sp : Nat → Bool} {held : Bool} {fuel : Nat} {cs : List Value} {x : DataW H × List MemPlace} (h : DataW.trod enc Tryz.prog W 0 sp held fuel 25 cs = some x) : ∃ (s : Bool) (a b : Int), cs = [.bool s, .int .i64 a, .int .i64 b] ∧ isI a ∧ isI b := by
  obtain ⟨xs, n, hn, hx, hl, hlen, hh⟩ := DataW.trod_struct Tryz.underlying25 h
  rw [co_r] at hl
  obtain ⟨c0, c1, c2, rfl⟩ := list3 hl
  obtain ⟨y0, y1, y2, rfl⟩ := list3 (show xs.length = 3 from hlen)
  have h0 : DataW.trod enc Tryz.prog W 0 sp held n 4 [c0] = some y0 := by have := hh 0 _ rfl; simpa [co_b] using this
  have h1 : DataW.trod enc Tryz.prog W 0 sp held n 3 [c1] = some y1 := by have := hh 1 _ rfl; simpa [co_i] using this
  have h2 : DataW.trod enc Tryz.prog W 0 sp held n 3 [c2] = some y2 := by have := hh 2 _ rfl; simpa [co_i] using this
  obtain ⟨s, e0, _⟩ := DataW.trod_bool Tryz.underlying4 h0
  obtain ⟨a, e1, _, w1⟩ := DataW.trod_int Tryz.underlying3 h1
  obtain ⟨b, e2, _, w2⟩ := DataW.trod_int Tryz.underlying3 h2
  have b1 := bounds_i64 w1
  have b2 := bounds_i64 w2
  simp at e0 e1 e2
  subst e0 e1 e2
  exact ⟨s, a, b, rfl, ⟨b1.1, by have := b1.2; omega⟩, ⟨b2.1, by have := b2.2; omega⟩⟩
theorem op_open {H : Type} {enc : TypeId × Value → H} {W : World} {sp : Nat → Bool} {held : Bool} {fuel : Nat} {cs : List Value} {x : DataW H × List MemPlace} (h : DataW.trod enc Tryz.prog W 0 sp held fuel 28 cs = some x) : ∃ (o : Opx) (kp : Option Addr) (kc : Nat), cs = (opV o kp kc).toList ∧ o.Ok ∧ KRd W kp o.keys ∧ o.keys.length + 1 ≤ Rows.uptoBulk x.1 := by
  obtain ⟨xs, n, hn, hx, hl, hlen, hh⟩ := DataW.trod_struct Tryz.underlying28 h
  rw [co_op] at hl
  obtain ⟨c0, c1, c2, c3, c4, c5, c6, c7, c8, c9, c10, rfl⟩ := list11 hl
  obtain ⟨y0, y1, y2, y3, y4, y5, y6, y7, y8, rfl⟩ := list9 (show xs.length = 9 from hlen)
  have h0 : DataW.trod enc Tryz.prog W 0 sp held n 22 [c0] = some y0 := by have := hh 0 _ rfl; simpa [co_o] using this
  have h1 : DataW.trod enc Tryz.prog W 0 sp held n 23 [c1] = some y1 := by have := hh 1 _ rfl; simpa [co_u] using this
  have h2 : DataW.trod enc Tryz.prog W 0 sp held n 23 [c2] = some y2 := by have := hh 2 _ rfl; simpa [co_u] using this
  have h3 : DataW.trod enc Tryz.prog W 0 sp held n 23 [c3] = some y3 := by have := hh 3 _ rfl; simpa [co_u] using this
  have h4 : DataW.trod enc Tryz.prog W 0 sp held n 23 [c4] = some y4 := by have := hh 4 _ rfl; simpa [co_u] using this
  have h5 : DataW.trod enc Tryz.prog W 0 sp held n 25 [c5, c6, c7] = some y5 := by have := hh 5 _ rfl; simpa [co_r] using this
  have h6 : DataW.trod enc Tryz.prog W 0 sp held n 26 [c8] = some y6 := by have := hh 6 _ rfl; simpa [co_us] using this
  have h7 : DataW.trod enc Tryz.prog W 0 sp held n 23 [c9] = some y7 := by have := hh 7 _ rfl; simpa [co_u] using this
  have h8 : DataW.trod enc Tryz.prog W 0 sp held n 23 [c10] = some y8 := by have := hh 8 _ rfl; simpa [co_u] using this
  obtain ⟨z0, e0, _, w0⟩ := DataW.trod_int Tryz.underlying22 h0
  obtain ⟨z1, e1, _, w1⟩ := DataW.trod_int Tryz.underlying23 h1
  obtain ⟨z2, e2, _, w2⟩ := DataW.trod_int Tryz.underlying23 h2
  obtain ⟨z3, e3, _, w3⟩ := DataW.trod_int Tryz.underlying23 h3
  obtain ⟨z4, e4, _, w4⟩ := DataW.trod_int Tryz.underlying23 h4
  obtain ⟨s, a, b, e5, ha, hb⟩ := ref_open h5
  obtain ⟨kp, kc, keys, e6, hK, hks, hbl⟩ := vals_open h6
  obtain ⟨z7, e7, _, w7⟩ := DataW.trod_int Tryz.underlying23 h7
  obtain ⟨z8, e8, _, w8⟩ := DataW.trod_int Tryz.underlying23 h8
  obtain ⟨k, rfl, hk⟩ := nat_u8 w0
  obtain ⟨key, rfl, hkey⟩ := nat_u64 w1
  obtain ⟨val, rfl, hval⟩ := nat_u64 w2
  obtain ⟨old, rfl, hold⟩ := nat_u64 w3
  obtain ⟨hnd, rfl, hhnd⟩ := nat_u64 w4
  obtain ⟨lo, rfl, hlo⟩ := nat_u64 w7
  obtain ⟨hi, rfl, hhi⟩ := nat_u64 w8
  simp at e0 e1 e2 e3 e4 e5 e6 e7 e8
  obtain ⟨e5, e5', e5''⟩ := e5
  subst e0 e1 e2 e3 e4 e5 e5' e5'' e6 e7 e8
  refine ⟨⟨k, key, val, old, hnd, s, a, b, keys, lo, hi⟩, kp, kc, rfl, ⟨hk, hkey, hval, hold, hhnd, ha, hb, hks, hlo, hhi⟩, hK, ?_⟩
  have hx1 : x.1 = .agg [y0.1, y1.1, y2.1, y3.1, y4.1, y5.1, y6.1, y7.1, y8.1] := by rw [hx]; rfl
  rw [hx1]
  simp only [Rows.uptoBulk, Rows.uptoBulkAll]
  (try simp only at hbl ⊢)
  omega
end Go.Proofs.YtmmaniolaljjlaaGreatDoor
/- From what the rows list of package-level variables to the tables that the walks read. -/
namespace Go.Proofs.YtmmaniolaljjlaaGreatDoor
open Go.ChangeShapes Go.WideShapes Go.ChangeAt Go.WideMaps Go.WideElems Go.RowKit Go.Joins Go.Deep
set_option linter.unusedVariables false

theorem own : ownKnob Tryz.prog.godebug = none := by kernel_rfl
theorem laidOut : laidOutB Tryz.prog = true := by kernel_rfl
theorem gES : Tryz.prog.globalNamed "strconv.ErrSyntax" = some 3 := by kernel_rfl
theorem tES : (Tryz.prog.globals[3]?).map (·.type) = some 81 := by kernel_rfl
theorem gER : Tryz.prog.globalNamed "strconv.ErrRange" = some 4 := by kernel_rfl
theorem tER : (Tryz.prog.globals[4]?).map (·.type) = some 81 := by kernel_rfl
theorem gP10 : Tryz.prog.globalNamed "internal/strconv.uint64pow10" = some 2 := by kernel_rfl
theorem tP10 : (Tryz.prog.globals[2]?).map (·.type) = some 213 := by kernel_rfl
theorem tWd : (Tryz.prog.globals[0]?).map (·.type) = some 119 := by kernel_rfl
theorem cells9 : Tryz.prog.cellsOf 9 = 1 := by kernel_rfl
theorem cellsU : Tryz.prog.cellsOf 23 = 1 := by kernel_rfl
theorem cellsA : Tryz.prog.cellsOf 213 = 20 := by kernel_rfl
theorem cellsW : Tryz.prog.cellsOf 119 = 11 := by kernel_rfl
theorem cellsE : Tryz.prog.cellsOf 244 = 1 := by kernel_rfl
theorem star : "*" ++ "errors.errorString" = "*errors.errorString" := by decide
theorem rowErr (u : TypeId) (h : Tryz.prog.typeName? 3 u = some "*errors.errorString") : u = 242 :=
  typeName_ptr_named (nm := "errors.errorString") (by rw [star]; kernel_rfl) (by kernel_rfl) (by decide) u (by rw [star]; exact h)
/-- an array of texts that reads as the table holds the table's texts -/
theorem cells_of_strs {H : Type} {enc : TypeId × Value → H} {P : Program} {w : World} {base : Nat} {sp : Nat → Bool} {held : Bool} {fuel : Nat} {t e : TypeId} {n : Nat} {cs : List Value} {zs : List (List UInt8)} {p : List MemPlace}
    (ht : P.underlying t = some (.array n e)) (he : P.underlying e = some .string) (hce : P.cellsOf e = 1) (hct : P.cellsOf t = n)
    (h : DataW.trod enc P w base sp held fuel t cs = some (.agg (zs.map fun z => .lit (.string z)), p)) : cs = zs.map fun z => Value.string (mkS z) := by
  cases fuel with
  | zero => simp [DataW.trod] at h
  | succ fuel =>
    simp only [DataW.trod, ht, hce, hct, Nat.mul_one] at h
    split at h
    · rename_i hl
      obtain ⟨xs, hm, hx⟩ := Option.map_eq_some_iff.1 h
      have hxs : xs.map (·.1) = zs.map fun z => (DataW.lit (.string z) : DataW H) := by
        have := congrArg Prod.fst hx
        simpa using this
      have hxl : xs.length = n := by simpa using Lib.mapM_length hm
      have hzl : zs.length = n := by
        have := congrArg List.length hxs
        simp at this
        omega
      apply List.ext_getElem?
      intro i
      by_cases hi : i < n
      · obtain ⟨b, hb, hf⟩ := Lib.mapM_at hm i i (by simp [hi])
        obtain ⟨s, hc, rfl, _⟩ := DataW.trod_string he hf
        have h1 : cs[i]? = some (.string s) := by
          have := congrArg (·[0]?) hc
          simpa [List.getElem?_take, List.getElem?_drop] using this
        have h2 : (xs.map (·.1))[i]? = some (DataW.lit (.string s.data.toList) : DataW H) := by simp [hb]
        rw [hxs] at h2
        simp only [List.getElem?_map, Option.map_eq_some_iff, DataW.lit.injEq, Lit.string.injEq] at h2
        obtain ⟨z', hz', e2⟩ := h2
        rw [h1, List.getElem?_map, hz', e2]
        simp [mkS_data]
      · rw [List.getElem?_eq_none (by omega), List.getElem?_eq_none (by simp; omega)]
    · cases h
theorem strsIs_of_head {P : Program} {W : World} {name : String} {zs : List (List UInt8)} {rest : List (String × DataW Unit)} {g : Nat} {t e : TypeId} {n : Nat}
    (hg : P.globalNamed name = some g) (hty : (P.globals[g]?).map (·.type) = some t) (ht : P.underlying t = some (.array n e)) (he : P.underlying e = some .string) (hce : P.cellsOf e = 1) (hct : P.cellsOf t = n)
    (h : laidMet P ((name, .agg (zs.map fun z => .lit (.string z))) :: rest) W) : W.var? P name = some (zs.map fun z => Value.string (mkS z)).toArray := by
  obtain ⟨ps, ⟨g', t', cs, fuel, p, q, hg', ht', hvar, hd, _, _⟩, _⟩ := h
  obtain rfl := Option.some.inj (hg.symm.trans hg')
  obtain rfl := Option.some.inj (hty.symm.trans ht')
  rw [hvar, ← cells_of_strs ht he hce hct hd]
theorem tb_of_laid {W : World} (h : laidMetH Tryz.prog Rows.scriptOpsUptoRow.laid W) (hsh : W.ShapedOpen Tryz.prog) : Tb W ∧ Wd W := by
  rw [MakeChecks.laidMetH_plain _ _ _ (by kernel_rfl)] at h
  have h3 : laidMet Tryz.prog (("internal/strconv.uint64pow10", Lib.tabData .u64 Lib.pow10Tab) :: _) W := h.tail.tail
  have hT := Lib.tabIs_of_head gP10 tP10 Tryz.underlying213 Tryz.underlying23 cellsU cellsA h3
  obtain ⟨a1, s1, hER, -, -, -⟩ := laid_sentinel h.tail.tail.tail.tail gER tER Tryz.underlying81 rowErr Tryz.underlying242 Tryz.underlying244 rfl rfl Tryz.underlying9 cellsE cells9
  obtain ⟨a0, s0, hES, -, -, -⟩ := laid_sentinel h.tail.tail.tail.tail.tail gES tES Tryz.underlying81 rowErr Tryz.underlying242 Tryz.underlying244 rfl rfl Tryz.underlying9 cellsE cells9
  have h6 : laidMet Tryz.prog (("shutter/script.words", .agg (opWs.map fun z => .lit (.string z))) :: _) W := h.tail.tail.tail.tail.tail.tail
  exact ⟨⟨hT, ⟨_, _, hES⟩, ⟨_, _, hER⟩, Tryz.lays146.s1_3 W hsh⟩, strsIs_of_head gWd tWd Tryz.underlying119 Tryz.underlying9 cells9 cellsW h6⟩
end Go.Proofs.YtmmaniolaljjlaaGreatDoor
