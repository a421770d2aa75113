/- StepApart, walked. -/
import Derived.Test.YtnhiodmigmmfgaaQ11YS
import Derived.Test.YtnhiodmigmmfgaaQ12SLive
import Derived.Deep.RegionHeld3
import Derived.Deep.Cut
import Derived.Deep.CutBlock
import Derived.Deep.CutRange
import Derived.Deep.DeepCutAuto
namespace Go.Proofs.Ytnhiodmigmmfgaa
open Go.RowKit Go.Shelf
set_option linter.unusedVariables false

theorem infoDoA : (Try.prog.info? 33).map (fun i => (i.zero, i.size, i.bytes)) = some (some (.agg #[.int .u8 0, .int .u64 0, .int .u64 0, .int .u64 0, .slice none 0 0]), 5, 56) := by kernel_rfl
theorem infoPlA : (Try.prog.info? 28).map (fun i => (i.zero, i.size, i.bytes)) = some (some (.agg #[.bool false, .slice none 0 0]), 2, 32) := by kernel_rfl
theorem infoPsA : (Try.prog.info? 25).map (fun i => (i.zero, i.size, i.bytes)) = some (some (.slice none 0 0), 1, 24) := by kernel_rfl
/-- A plan under way: its block, its steps so far. -/
structure PU (W w2 wr : World) (i b : Nat) (qn : Bool) (L : List DoP) (s : Nat) (v : Value) (R : List DR) : Prop where
  blk : wr.heap[b]? = some (.cells #[.bool qn, v] 28 (0, 0))
  lr : LRow W wr b v R
  map : R.map DR.d = (L.take s).map (ownD i)
  chg : Chg (fun _ => False) w2 wr
  sz : w2.heap.size = b
theorem PU.put {W w2 wr w5 w6 : World} {i b : Nat} {qn : Bool} {L : List DoP} {s : Nat} {v v' : Value} {R : List DR} {z : DR} {d : DoP} {o : Obj} (h : PU W w2 wr i b qn L s v R) (c5 : Chg (fun _ => False) wr w5) (hd : L[s]? = some d) (ez : z.d = ownD i d) (hz : z.Ok W) (r1 : w6.ownsRow b 33 5 v' (R.length + 1) (drRow R ++ z.cells)) (r2 : (w5.alloc o).grownBy w6 v.ownBlock) : PU W w2 (w6.setCell ⟨b, 1, none⟩ v') i b qn L (s + 1) v' (R ++ [z]) := by
  have c6 : Chg (fun k => v.ownBlock = some k) wr w6 := (c5.alloc o).trans ((Chg.refl (fun k => v.ownBlock = some k) _).grown r2 (fun k e _ => e)) (fun _ _ x => x.elim) (fun _ _ x => x)
  have hb6 : w6.heap[b]? = some (.cells #[.bool qn, v] 28 (0, 0)) := (c6.block b (lt_of h.blk) (fun e => block_apart (row_base h.lr.row) h.blk (by decide) e)).trans h.blk
  have nb : ∀ g, v'.ownBlock = some g → g ≠ b := fun g e q => block_apart (row_base r1) hb6 (by decide) (by rw [← q]; exact e)
  refine ⟨?_, ⟨?_, fun y hy => ?_⟩, ?_, ?_, h.sz⟩
  · rw [set_of hb6 1 v']; rfl
  · have e : drRow (R ++ [z]) = drRow R ++ z.cells := by simp [drRow]
    rw [e, List.length_append]
    exact rowB_kept r1 (fun g e => Below.heap_setCell _ _ _ g (nb g e))
  · rcases List.mem_append.1 hy with q | q
    · exact h.lr.ok y q
    · obtain rfl := List.mem_singleton.1 q; exact hz
  · rw [List.map_append, h.map, List.take_add_one, hd]
    simp [ez]
  · have c7 : Chg (fun k => b ≤ k) w2 (w6.setCell ⟨b, 1, none⟩ v') := (h.chg.trans c6 (H := fun k => b ≤ k) (fun _ _ x => x.elim) (fun k _ e => (h.lr.row.lt k e).1)).setCell (fun _ => Nat.le_refl _) _
    exact ⟨c7.os, c7.tape, c7.output, c7.size, fun k hk _ => c7.block k hk (by have := h.sz; omega)⟩
def SameY (w w' : World) : Prop := w = w'
set_option maxRecDepth 100000 in
set_option maxHeartbeats 16000000 in
theorem apart_walk {W : World} {p : Option Addr} {c8 : Nat} {ll : List (List PlP)} {ap : Nat → Option Addr} {ac : Nat → Nat} {lp : Nat → Nat → Option Addr} {lc : Nat → Nat → Nat} (hP : ThsAt W W.heap.size p ll ap ac lp lc) (hll : ll.length ≤ 1048576) (hls : ∀ l ∈ ll, l.length ≤ 1048576) (hL : ∀ l ∈ ll, ∀ q ∈ l, q.L.length ≤ 1048576) (hsum : sumTo (fun i => match ll[i]? with | some l => pre l l.length | none => 0) ll.length ≤ 1048576) {pa pc : Option Addr} {ca cc : Nat} {la lb : List Int} (hA : IReads W pa la) (hla : la.length ≤ 1048576) (hB : IReads W pc lb) (hlb : lb.length ≤ 1048576) :
    Calls Try.prog 3 #[.slice p ll.length c8, .slice pa la.length ca, .slice pc lb.length cc] W fun e W' => e = .returned (.bool true) ∧ Chg (fun _ => False) W W' := by
  obtain ⟨i0, hi0, hz0, hz1, hz2⟩ := info_parts infoDoA
  obtain ⟨j0, hj0, hy0, hy1, hy2⟩ := info_parts infoPlA
  obtain ⟨k0, hk0, hx0, hx1, hx2⟩ := info_parts infoPsA
  have HP := keepH hP
  have HLS := keepH hls
  have HL := keepH hL
  have HSM := keepH hsum
  have HA := keepH hA
  have HBB := keepH hB
  have HL1 := keepH (s_live W)
  clear hP hls hL hsum hA hB
  go_enter Try.func3, Try.ntmps3
  go_wp2_with fail
  refine HL1.out.mono ?_
  rintro e V0 ⟨rfl, c0⟩
  have HC0 := keepH c0
  clear c0 HL1
  go_wp2_with fail
  go_loopw [7, 8] (fun s7 s8 wx => ∃ i : Nat, i ≤ ll.length ∧ i ≤ 10 ∧ s8 = .int .i64 (i : Int) ∧ (∃ p7 c7, s7 = .slice p7 i c7) ∧ Hid (∃ A : List TR, A.length = i ∧ ORow W wx V0.heap.size s7 A ∧ A.map TR.pls = ownLL ll i ∧ Chg (fun _ => False) V0 wx)) (fun _ s _ => ll.length - (intOf s).toNat)
  case atStart => exact ⟨0, Nat.zero_le _, Nat.zero_le _, rfl, ⟨none, 0, rfl⟩, [], rfl, ⟨World.ownsRow_nil _ _ _ _, fun t ht => by cases ht⟩, rfl, Chg.refl _ _⟩
  case round =>
    obtain ⟨i, hil, hi10, rfl, ⟨p7, c7, rfl⟩, HX⟩ := hrel
    obtain ⟨w1, hw1⟩ : ∃ w1, w1 = wr := ⟨_, rfl⟩
    subst hw1
    go_upto_region 5 with fail
    go_cut [32] from 25 to 32 (fun s32 wx => ∃ t : Bool, s32 = .bool t ∧ Hid (t = decide (i < ll.length ∧ i < 10)) ∧ SameY wx w1)
    case first =>
      by_cases hi : i < ll.length
      · have z1 : (i : Int) < (ll.length : Int) := by omega
        by_cases hi2 : i < 10
        · have z2 : (i : Int) < 10 := by omega
          go_wp2_with fail
          go_meet
          exact ⟨true, by first | rfl | simp [z2], by show _ = _; rw [decide_eq_true ⟨hi, hi2⟩], rfl⟩
        · have z2 : ¬ (i : Int) < 10 := by omega
          go_wp2_with fail
          go_meet
          exact ⟨false, by first | rfl | simp [z2], by show _ = _; rw [decide_eq_false (fun q => hi2 q.2)], rfl⟩
      · have z1 : ¬ (i : Int) < (ll.length : Int) := by omega
        go_wp2_with fail
        go_meet
        exact ⟨false, rfl, by show _ = _; rw [decide_eq_false (fun q => hi q.1)], rfl⟩
    case rest =>
      obtain ⟨t, rfl, ht, hsw⟩ := hcut
      obtain rfl : wc = w1 := hsw
      obtain ⟨w1, hw1⟩ : ∃ w1, w1 = wc := ⟨_, rfl⟩
      subst hw1
      cases t with
      | true =>
        have hd := of_decide_eq_true ht.out.symm
        have hi := hd.1
        have hi2 := hd.2
        clear hd ht
        obtain ⟨l, hl⟩ : ∃ l, ll[i]? = some l := ⟨ll[i], List.getElem?_eq_getElem hi⟩
        obtain ⟨A, hAl, hO, hAm, hC1⟩ := HX.out
        have HO := keepH hO
        have HAL := keepH hAl
        have HAM := keepH hAm
        have HC1 := keepH hC1
        have HPW : Hid (∀ w, Chg (fun _ => False) w1 w → ThsAt w W.heap.size p ll ap ac lp lc) := fun w cw => HP.out.chg (Nat.le_refl _) ((HC0.out.trans HC1.out (H := fun _ => False) (fun _ _ x => x) (fun _ _ x => x)).trans cw (fun _ _ x => x) (fun _ _ x => x))
        have hl48 : l.length ≤ 1048576 := HLS.out l (List.mem_of_getElem? hl)
        have HLQ := keepH (HL.out l (List.mem_of_getElem? hl))
        have HLI := keepH hl
        obtain ⟨⟨bk, off, ep, hbk, d0⟩, _⟩ := HPW.out w1 (Chg.refl _ _) i l hl
        have HEP := keepH ep
        subst ep
        clear HX hO hAl hAm hC1 hl hbk
        go_wp2_with fail
        clear d0
        go_loopw [9, 10] (fun s9 s10 wx => ∃ k : Nat, k ≤ l.length ∧ s10 = .int .i64 (k : Int) ∧ (∃ p9 c9, s9 = .slice p9 k c9) ∧ Hid (∃ Q : List QR, Q.length = k ∧ PRow W wx w1.heap.size s9 Q ∧ Q.map QR.pl = (l.take k).map (ownQ i) ∧ Chg (fun _ => False) w1 wx)) (fun _ s _ => l.length - (intOf s).toNat)
        case atStart => exact ⟨0, Nat.zero_le _, rfl, ⟨none, 0, rfl⟩, [], rfl, ⟨World.ownsRow_nil _ _ _ _, fun t ht => by cases ht⟩, rfl, Chg.refl _ _⟩
        case round =>
          obtain ⟨k, hkl, rfl, ⟨p9, c9, rfl⟩, HY⟩ := hrel
          obtain ⟨w2, hw2⟩ : ∃ w2, w2 = wr := ⟨_, rfl⟩
          subst hw2
          obtain ⟨Q, hQl, hPR, hQm, hC2⟩ := HY.out
          have HQL := keepH hQl
          have HPR := keepH hPR
          have HQM := keepH hQm
          have HC2 := keepH hC2
          obtain ⟨⟨bk', off', ep, _, d0⟩, _⟩ := HPW.out w2 hC2 i l HLI.out
          injection ep with ep
          injection ep with ep1 ep2 _
          subst ep1 ep2
          clear HY hQl hPR hQm hC2
          by_cases hk : k < l.length
          · have z3 : (k : Int) < (l.length : Int) := by omega
            obtain ⟨q, hq⟩ : ∃ q, l[k]? = some q := ⟨l[k], List.getElem?_eq_getElem hk⟩
            have HQQ := keepH hq
            have hqL : q.L.length ≤ 1048576 := HLQ.out q (List.mem_of_getElem? hq)
            have HPW2 : Hid (∀ w, Chg (fun _ => False) w2 w → ∃ bl ol, ap i = some ⟨bl, ol, none⟩ ∧ w.cell? ⟨bk, off + i, none⟩ = some (.slice (some ⟨bl, ol, none⟩) l.length (ac i)) ∧ w.cell? ⟨bl, ol + k * 2, none⟩ = some (.bool q.none) ∧ w.cell? ⟨bl, ol + k * 2 + 1, none⟩ = some (.slice (lp i k) q.L.length (lc i k)) ∧ DosAt w W.heap.size (lp i k) q.L) := fun w cw => by
              obtain ⟨⟨b1, o1, e1, _, f0⟩, hPl⟩ := HPW.out w (HC2.out.trans cw (fun _ _ x => x) (fun _ _ x => x)) i l HLI.out
              obtain ⟨⟨bl, ol, e2, _, f1, f2⟩, f3⟩ := hPl k q HQQ.out
              injection e1 with e1
              injection e1 with e11 e12 _
              subst e11 e12
              rw [e2] at f0
              exact ⟨bl, ol, e2, f0, f1, f2, f3⟩
            obtain ⟨bl, ol, ea, f0, f1, f2, _⟩ := HPW2.out w2 (Chg.refl _ _)
            have HEA := keepH ea
            obtain ⟨qn, hqn⟩ : ∃ qn, qn = q.none := ⟨_, rfl⟩
            rw [← hqn] at f1
            have HQN := keepH hqn
            clear hq d0 ea hqn
            go_upto_region 12 with fail
            obtain ⟨b, hb⟩ : ∃ b, b = w2.heap.size := ⟨_, rfl⟩
            obtain ⟨w3, hw3⟩ : ∃ w3, w3 = w2.alloc (.cells #[.bool qn, .slice none 0 0] 28) := ⟨_, rfl⟩
            rw [← hw3, ← hb]
            have HPU : Hid (PU W w2 w3 i b qn q.L 0 (.slice none 0 0) []) := ⟨by rw [hw3, hb]; exact heap_alloc_new _ _, ⟨World.ownsRow_nil _ _ _ _, fun z hz => by cases hz⟩, rfl, by rw [hw3]; exact (Chg.refl _ _).alloc _, hb.symm⟩
            clear hw3 hb f0 f1 f2
            go_wp2_with fail
            go_loopw [12] (fun s12 wx => ∃ s : Nat, s ≤ q.L.length ∧ s12 = .int .i64 (s : Int) ∧ Hid (∃ v R, PU W w2 wx i b qn q.L s v R ∧ R.length = s)) (fun s _ => q.L.length - (intOf s).toNat)
            case atStart => exact ⟨0, Nat.zero_le _, rfl, _, _, HPU.out, rfl⟩
            case round =>
              obtain ⟨s, hsl, rfl, HZ⟩ := hrel
              obtain ⟨w4, hw4⟩ : ∃ w4, w4 = wr := ⟨_, rfl⟩
              subst hw4
              obtain ⟨v, R, hU, hRl⟩ := HZ.out
              have HU := keepH hU
              have HRL := keepH hRl
              obtain ⟨bl', ol', ea', f0, f1, f2, f3⟩ := HPW2.out w4 hU.chg
              have eq1 := HEA.out
              rw [eq1] at ea'
              injection ea' with ea'
              injection ea' with ea1 ea2 _
              subst ea1 ea2
              have HF3 := keepH f3
              clear HZ hU hRl f3 eq1 f1
              by_cases hs : s < q.L.length
              · have z4 : (s : Int) < (q.L.length : Int) := by omega
                obtain ⟨d, hd⟩ : ∃ d, q.L[s]? = some d := ⟨q.L[s], List.getElem?_eq_getElem hs⟩
                obtain ⟨ho, bd, od, vp, vc, elp, hbd, e0, e1, e2, e3, e4, hrd, hvp⟩ := HF3.out s d hd
                rw [elp] at f2
                have HDD := keepH hd
                have HDO := keepH ho
                have hm1 : IntKind.i64.wrap (10 * (i : Int)) = 10 * (i : Int) := by rw [IntKind.wrap_i64]; omega
                have hm2 : IntKind.i64.wrap (60 + 10 * (i : Int)) = 60 + 10 * (i : Int) := by rw [IntKind.wrap_i64]; omega
                obtain ⟨kd, hkd⟩ : ∃ kd, kd = d.kd := ⟨_, rfl⟩
                rw [← hkd] at e0
                obtain ⟨nad, hnad⟩ : ∃ n : Nat, n = d.ad := ⟨_, rfl⟩
                rw [← hnad] at e1
                have hnl : nad < 18446744073709551616 := by rw [hnad]; exact ho.ad
                have HKD := keepH hkd
                have HNAD := keepH hnad
                have HVP := keepH hvp
                have HRD := keepH hrd
                have HELP := keepH elp
                clear hd ho hkd hnad hvp hrd elp hbd
                go_upto_region 16 with fail
                obtain ⟨b3, hb3⟩ : ∃ b3, b3 = w4.heap.size := ⟨_, rfl⟩
                obtain ⟨w5, hw5⟩ : ∃ w5, w5 = w4.alloc (.cells #[.int .u8 kd, .int .u64 (nad : Int), .int .u64 (d.a : Int), .int .u64 (d.b : Int), .slice vp d.vals.length vc] 33) := ⟨_, rfl⟩
                rw [← hw5, ← hb3]
                have hB5 : w5.heap[b3]? = some (.cells #[.int .u8 kd, .int .u64 (nad : Int), .int .u64 (d.a : Int), .int .u64 (d.b : Int), .slice vp d.vals.length vc] 33 (0, 0)) := by rw [hw5, hb3]; exact heap_alloc_new _ _
                have HB5 := keepH hB5
                have HC5 : Hid (Chg (fun _ => False) w4 w5) := by rw [hw5]; exact (Chg.refl _ _).alloc _
                have hb3' : Hid (b3 = w4.heap.size) := hb3
                clear hw5 hB5 hb3 f0 f2 e0 e1 e2 e3 e4
                have k1 : w5.cell? ⟨b3, 1, none⟩ = some (.int .u64 (nad : Int)) := cell_of HB5.out 1
                have q1 := free_of HB5.out 1
                go_upto_region 17 with fail
                obtain ⟨A0, hA0⟩ : ∃ A0 : Nat, A0 = 60 + 10 * i + nad % 10 := ⟨_, rfl⟩
                have eA : (60 + 10 * (i : Int) + (nad : Int) % 10) = (A0 : Int) := by omega
                rw [eA]
                obtain ⟨w6, hw6⟩ : ∃ w6, w6 = w5.setCell ⟨b3, 1, none⟩ (.int .u64 (A0 : Int)) := ⟨_, rfl⟩
                rw [← hw6]
                have HA0 := keepH hA0
                have HB6 : Hid (w6.heap[b3]? = some (.cells #[.int .u8 kd, .int .u64 (A0 : Int), .int .u64 (d.a : Int), .int .u64 (d.b : Int), .slice vp d.vals.length vc] 33 (0, 0))) := by rw [hw6, set_of HB5.out 1 _]; rfl
                have HC6 : Hid (Chg (fun _ => False) w4 w6) := by
                  rw [hw6]
                  have z : Chg (fun k => k = b3) w4 (w5.setCell ⟨b3, 1, none⟩ (.int .u64 (A0 : Int))) := (HC5.out.mono (G := fun k => k = b3) (fun _ _ x => x.elim)).setCell (p := ⟨b3, 1, none⟩) (fun _ => rfl) _
                  exact ⟨z.os, z.tape, z.output, z.size, fun k hk _ => z.block k hk (by have := hb3'.out; omega)⟩
                clear hw6 k1 q1 eA hA0 hm1 hm2
                have k0' : w6.cell? ⟨b3, 0, none⟩ = some (.int .u8 kd) := cell_of HB6.out 0
                have q0 := free_of HB6.out 0
                by_cases h5 : kd = 5
                · have t5 : (kd == 5) = true := by simp [h5]
                  have H5 := keepH h5
                  clear h5
                  go_upto_region 19 with fail
                  obtain ⟨w7, hw7⟩ : ∃ w7, w7 = w6.setCell ⟨b3, 0, none⟩ (.int .u8 4) := ⟨_, rfl⟩
                  rw [← hw7]
                  have HC7 : Hid (Chg (fun _ => False) w4 w7) := by
                    rw [hw7]
                    have z : Chg (fun k => k = b3) w4 (w6.setCell ⟨b3, 0, none⟩ (.int .u8 4)) := (HC6.out.mono (G := fun k => k = b3) (fun _ _ x => x.elim)).setCell (p := ⟨b3, 0, none⟩) (fun _ => rfl) _
                    exact ⟨z.os, z.tape, z.output, z.size, fun k hk _ => z.block k hk (by have := hb3'.out; omega)⟩
                  have HB7 : Hid (w7.heap[b3]? = some (.cells #[.int .u8 4, .int .u64 (A0 : Int), .int .u64 (d.a : Int), .int .u64 (d.b : Int), .slice vp d.vals.length vc] 33 (0, 0))) := by rw [hw7, set_of HB6.out 0 _]; rfl
                  clear hw7 k0' q0 t5
                  have hbU : w7.heap[b]? = some (.cells #[.bool qn, v] 28 (0, 0)) := (HC7.out.block b (lt_of HU.out.blk) (fun x => x)).trans HU.out.blk
                  obtain ⟨pv, cv, hv⟩ := slice_row HU.out.lr.row
                  rw [hv] at hbU
                  have HBU := keepH hbU
                  have g1 : w7.cell? ⟨b, 1, none⟩ = some (.slice pv R.length cv) := cell_of hbU 1
                  have m0 : w7.cell? ⟨b3, 0, none⟩ = some (.int .u8 4) := cell_of HB7.out 0
                  have m1 : w7.cell? ⟨b3, 1, none⟩ = some (.int .u64 (A0 : Int)) := cell_of HB7.out 1
                  have m2 : w7.cell? ⟨b3, 2, none⟩ = some (.int .u64 (d.a : Int)) := cell_of HB7.out 2
                  have m3 : w7.cell? ⟨b3, 3, none⟩ = some (.int .u64 (d.b : Int)) := cell_of HB7.out 3
                  have m4 : w7.cell? ⟨b3, 4, none⟩ = some (.slice vp d.vals.length vc) := cell_of HB7.out 4
                  have HLR7 : Hid (w7.ownsRow b 33 5 (.slice pv R.length cv) R.length (drRow R)) := by rw [← hv]; exact (HU.out.lr.kept (fun g e => HC7.out.block g (HU.out.lr.row.lt g e).2 (fun x => x))).row
                  have hRs : R.length ≤ 1048576 := by have := HRL.out; omega
                  have HBS : Hid (b ≤ w7.heap.size) := Nat.le_of_lt (lt_of hbU)
                  have HV := keepH hv
                  have HOK : Hid (DR.Ok W ⟨ownD i d, vp, vc⟩) := ⟨ownD_ok hi2 HDO.out, reads_low (X := w4) (B := W.heap.size) (fun k hk => ((HC0.out.trans HC1.out (H := fun _ => False) (fun _ _ x => x) (fun _ _ x => x)).trans (HC2.out.trans HU.out.chg (H := fun _ => False) (fun _ _ x => x) (fun _ _ x => x)) (H := fun _ => False) (fun _ _ x => x) (fun _ _ x => x)).block k hk (fun x => x) |>.symm) HRD.out HVP.out, HVP.out⟩
                  clear hbU hv HC5 HB5
                  go_wp2_with (at_builtin; refine wpList_append_own_at _ rfl _ _ 26 rfl b 33 i0 (.agg #[.int .u8 0, .int .u64 0, .int .u64 0, .int .u64 0, .slice none 0 0]) 5 56 Try.underlying26 hi0 hz0 hz1 hz2 rfl (by decide) _ _ _ rfl (HLR7.out.alloc _) ⟨_, 0, none⟩ 1 1 [.int .u8 4, .int .u64 (A0 : Int), .int .u64 (d.a : Int), .int .u64 (d.b : Int), .slice vp d.vals.length vc] rfl rfl (cells_new _ _ rfl _ _) (by intro u hu; simp at hu; rcases hu with rfl | rfl | rfl | rfl | rfl <;> rfl) (by unfold maxLen; omega) (by omega) (Nat.le_trans HBS.out (by simp)) ?_; intro v9 w9 r1 r2 r3 r4; have hb9 := keepH ((r2.block b (by rw [World.size_alloc]; have := lt_of HBU.out; omega) (fun e => block_apart (row_base HLR7.out) HBU.out (by decide) e.symm)).trans ((Below.heap_alloc w7 _ b (lt_of HBU.out)).trans HBU.out)); have r8 := cell_of hb9.out 1; have rf := free_of hb9.out 1; obtain ⟨gv9, cv9, hv9⟩ := slice_pos (row_base r1) (Nat.succ_pos _); have HR1 := keepH r1; have HR2 := keepH r2; clear r1 r2 r3 r4; subst hv9)
                  go_roundw
                  case rel =>
                    refine ⟨s + 1, by omega, by first | rfl | go_num, _, _, HU.out.put (z := ⟨ownD i d, vp, vc⟩) HC7.out HDD.out rfl HOK.out ?_ (by rw [HV.out]; exact HR2.out), by simp [HRL.out]⟩
                    have e : DR.cells ⟨ownD i d, vp, vc⟩ = [.int .u8 4, .int .u64 (A0 : Int), .int .u64 (d.a : Int), .int .u64 (d.b : Int), .slice vp d.vals.length vc] := by
                      unfold DR.cells ownD
                      simp only
                      rw [HA0.out, HNAD.out, ← HKD.out]
                      rw [if_pos H5.out]
                    rw [e]
                    exact HR1.out
                  case measure => simp [intOf]; omega
                · have t5 : (kd == 5) = false := by simp [h5]
                  have H5 := keepH h5
                  clear h5
                  go_upto_region 19 with fail
                  obtain ⟨w7, hw7⟩ : ∃ w7, w7 = w6 := ⟨_, rfl⟩
                  rw [← hw7]
                  have HC7 : Hid (Chg (fun _ => False) w4 w7) := by rw [hw7]; exact HC6.out
                  have HB7 : Hid (w7.heap[b3]? = some (.cells #[.int .u8 kd, .int .u64 (A0 : Int), .int .u64 (d.a : Int), .int .u64 (d.b : Int), .slice vp d.vals.length vc] 33 (0, 0))) := by rw [hw7]; exact HB6.out
                  clear hw7 k0' q0 t5
                  have hbU : w7.heap[b]? = some (.cells #[.bool qn, v] 28 (0, 0)) := (HC7.out.block b (lt_of HU.out.blk) (fun x => x)).trans HU.out.blk
                  obtain ⟨pv, cv, hv⟩ := slice_row HU.out.lr.row
                  rw [hv] at hbU
                  have HBU := keepH hbU
                  have g1 : w7.cell? ⟨b, 1, none⟩ = some (.slice pv R.length cv) := cell_of hbU 1
                  have m0 : w7.cell? ⟨b3, 0, none⟩ = some (.int .u8 kd) := cell_of HB7.out 0
                  have m1 : w7.cell? ⟨b3, 1, none⟩ = some (.int .u64 (A0 : Int)) := cell_of HB7.out 1
                  have m2 : w7.cell? ⟨b3, 2, none⟩ = some (.int .u64 (d.a : Int)) := cell_of HB7.out 2
                  have m3 : w7.cell? ⟨b3, 3, none⟩ = some (.int .u64 (d.b : Int)) := cell_of HB7.out 3
                  have m4 : w7.cell? ⟨b3, 4, none⟩ = some (.slice vp d.vals.length vc) := cell_of HB7.out 4
                  have HLR7 : Hid (w7.ownsRow b 33 5 (.slice pv R.length cv) R.length (drRow R)) := by rw [← hv]; exact (HU.out.lr.kept (fun g e => HC7.out.block g (HU.out.lr.row.lt g e).2 (fun x => x))).row
                  have hRs : R.length ≤ 1048576 := by have := HRL.out; omega
                  have HBS : Hid (b ≤ w7.heap.size) := Nat.le_of_lt (lt_of hbU)
                  have HV := keepH hv
                  have HOK : Hid (DR.Ok W ⟨ownD i d, vp, vc⟩) := ⟨ownD_ok hi2 HDO.out, reads_low (X := w4) (B := W.heap.size) (fun k hk => ((HC0.out.trans HC1.out (H := fun _ => False) (fun _ _ x => x) (fun _ _ x => x)).trans (HC2.out.trans HU.out.chg (H := fun _ => False) (fun _ _ x => x) (fun _ _ x => x)) (H := fun _ => False) (fun _ _ x => x) (fun _ _ x => x)).block k hk (fun x => x) |>.symm) HRD.out HVP.out, HVP.out⟩
                  clear hbU hv HC5 HB5
                  go_wp2_with (at_builtin; refine wpList_append_own_at _ rfl _ _ 26 rfl b 33 i0 (.agg #[.int .u8 0, .int .u64 0, .int .u64 0, .int .u64 0, .slice none 0 0]) 5 56 Try.underlying26 hi0 hz0 hz1 hz2 rfl (by decide) _ _ _ rfl (HLR7.out.alloc _) ⟨_, 0, none⟩ 1 1 [.int .u8 kd, .int .u64 (A0 : Int), .int .u64 (d.a : Int), .int .u64 (d.b : Int), .slice vp d.vals.length vc] rfl rfl (cells_new _ _ rfl _ _) (by intro u hu; simp at hu; rcases hu with rfl | rfl | rfl | rfl | rfl <;> rfl) (by unfold maxLen; omega) (by omega) (Nat.le_trans HBS.out (by simp)) ?_; intro v9 w9 r1 r2 r3 r4; have hb9 := keepH ((r2.block b (by rw [World.size_alloc]; have := lt_of HBU.out; omega) (fun e => block_apart (row_base HLR7.out) HBU.out (by decide) e.symm)).trans ((Below.heap_alloc w7 _ b (lt_of HBU.out)).trans HBU.out)); have r8 := cell_of hb9.out 1; have rf := free_of hb9.out 1; obtain ⟨gv9, cv9, hv9⟩ := slice_pos (row_base r1) (Nat.succ_pos _); have HR1 := keepH r1; have HR2 := keepH r2; clear r1 r2 r3 r4; subst hv9)
                  go_roundw
                  case rel =>
                    refine ⟨s + 1, by omega, by first | rfl | go_num, _, _, HU.out.put (z := ⟨ownD i d, vp, vc⟩) HC7.out HDD.out rfl HOK.out ?_ (by rw [HV.out]; exact HR2.out), by simp [HRL.out]⟩
                    have e : DR.cells ⟨ownD i d, vp, vc⟩ = [.int .u8 kd, .int .u64 (A0 : Int), .int .u64 (d.a : Int), .int .u64 (d.b : Int), .slice vp d.vals.length vc] := by
                      unfold DR.cells ownD
                      simp only
                      rw [HA0.out, HNAD.out, ← HKD.out]
                      rw [if_neg H5.out]
                    rw [e]
                    exact HR1.out
                  case measure => simp [intOf]; omega
              · have z4 : ¬ (s : Int) < (q.L.length : Int) := by omega
                obtain rfl : s = q.L.length := by omega
                obtain ⟨pv, cv, hv⟩ := slice_row HU.out.lr.row
                subst hv
                have g0 : w4.cell? ⟨b, 0, none⟩ = some (.bool qn) := cell_of HU.out.blk 0
                have g1 : w4.cell? ⟨b, 1, none⟩ = some (.slice pv R.length cv) := cell_of HU.out.blk 1
                have HPR4 : Hid (w4.ownsRow w1.heap.size 28 2 (.slice p9 k c9) Q.length (qrRow Q)) := (HPR.out.chg HU.out.chg).row
                have hq2 : Q.length = k := HQL.out
                rw [hq2] at HPR4
                have HSZ : Hid (w1.heap.size ≤ w4.heap.size) := Nat.le_trans HC2.out.size HU.out.chg.size
                go_wp2_with (at_builtin; refine wpList_append_own_at _ rfl _ _ 25 rfl w1.heap.size 28 j0 (.agg #[.bool false, .slice none 0 0]) 2 32 Try.underlying25 hj0 hy0 hy1 hy2 rfl (by decide) _ _ _ rfl (HPR4.out.alloc _) ⟨_, 0, none⟩ 1 1 [.bool qn, .slice pv R.length cv] rfl rfl (cells_new _ _ rfl _ _) (by intro u hu; simp at hu; rcases hu with rfl | rfl <;> rfl) (by unfold maxLen; omega) (by omega) (Nat.le_trans HSZ.out (by simp)) ?_; intro v9 w9 r1 r2 r3 r4; have HR1 := keepH r1; have HR2 := keepH r2; clear r1 r2 r3 r4)
                go_roundw
                case rel =>
                  have hmore := (HPR.out.chg HU.out.chg).more (z := ⟨qn, .slice pv R.length cv, R⟩) (HU.out.lr.up (Nat.zero_le _)) (by rw [hq2]; exact HR1.out) HR2.out
                  refine ⟨k + 1, by omega, by first | rfl | go_num, slice_row HR1.out, Q ++ [⟨qn, .slice pv R.length cv, R⟩], by simp [hq2], hmore, ?_, ?_⟩
                  · rw [List.map_append, HQM.out, List.take_add_one, HQQ.out]
                    have e : QR.pl ⟨qn, .slice pv R.length cv, R⟩ = ownQ i q := by
                      unfold QR.pl ownQ
                      simp only
                      rw [HU.out.map, List.take_of_length_le (Nat.le_refl _), HQN.out]
                    simp [e]
                  · exact (HC2.out.trans HU.out.chg (H := fun _ => False) (fun _ _ x => x) (fun _ _ x => x)).trans (((Chg.refl (fun k => w1.heap.size ≤ k) w4).alloc _).grown HR2.out (fun g e _ => (HPR4.out.lt g e).1)) (fun _ _ x => x) (fun k hk e => by omega)
                case measure => simp [intOf]; omega
          · have z3 : ¬ (k : Int) < (l.length : Int) := by omega
            obtain rfl : k = l.length := by omega
            have HO2 : Hid (ORow W w2 V0.heap.size (.slice p7 i c7) A) := HO.out.chg HC2.out
            have ha2 : A.length = i := HAL.out
            have HOR : Hid (w2.ownsRow V0.heap.size 25 1 (.slice p7 i c7) i (A.map TR.v)) := by rw [← ha2]; rw [← ha2] at HO2; exact HO2.out.row
            have HSZ : Hid (V0.heap.size ≤ w2.heap.size) := Nat.le_trans HC1.out.size HC2.out.size
            go_wp2_with (at_builtin; refine wpList_append_own_at _ rfl _ _ 22 rfl V0.heap.size 25 k0 (.slice none 0 0) 1 24 Try.underlying22 hk0 hx0 hx1 hx2 rfl (by decide) _ _ _ rfl (HOR.out.alloc _) ⟨_, 0, none⟩ 1 1 [.slice p9 l.length c9] rfl rfl (cells_new _ _ rfl _ _) (by intro u hu; simp at hu; subst hu; rfl) (by unfold maxLen; omega) (by omega) (Nat.le_trans HSZ.out (by simp)) ?_; intro v9 w9 r1 r2 r3 r4; have HR1 := keepH r1; have HR2 := keepH r2; clear r1 r2 r3 r4)
            go_roundw
            case rel =>
              refine ⟨i + 1, by omega, by omega, by first | rfl | go_num, slice_row HR1.out, A ++ [⟨.slice p9 l.length c9, Q⟩], by simp [ha2], HO2.out.more (t := ⟨.slice p9 l.length c9, Q⟩) ⟨row_up HPR.out.row (Nat.zero_le _), HPR.out.dos⟩ (by rw [ha2]; exact HR1.out) HR2.out, ?_, ?_⟩
              · have e : TR.pls ⟨.slice p9 l.length c9, Q⟩ = (lOf ll i).map (ownQ i) := by
                  show Q.map QR.pl = _
                  rw [HQM.out, List.take_of_length_le (Nat.le_refl _)]
                  have := lOf_get hi
                  rw [HLI.out] at this
                  injection this with this
                  rw [this]
                rw [List.map_append, HAM.out]
                unfold ownLL
                rw [List.range_succ, List.map_append]
                simp [e]
              · exact (HC1.out.trans HC2.out (H := fun _ => False) (fun _ _ x => x) (fun _ _ x => x)).trans (((Chg.refl (fun k => V0.heap.size ≤ k) w2).alloc _).grown HR2.out (fun g e _ => (HOR.out.lt g e).1)) (fun _ _ x => x) (fun k hk e => by omega)
            case measure => simp [intOf]; omega
      | false =>
        clear ht
        obtain ⟨A, hAl, hO, hAm, hC1⟩ := HX.out
        rw [← hAl] at hO
        obtain ⟨ap', ac', lp', lc', hT⟩ := hO.ths (HC0.out.trans hC1 (fun _ _ x => x) (fun _ _ x => x))
        rw [hAm] at hT
        obtain ⟨ol, hol⟩ : ∃ ol, ol = ownLL ll i := ⟨_, rfl⟩
        have hoL : ol.length = i := by rw [hol]; simp [ownLL]
        rw [← hol] at hT
        have HT := keepH hT
        have HLSO : Hid (∀ l ∈ ol, l.length ≤ 1048576) := fun l hl => by
          rw [hol] at hl
          obtain ⟨j, hj, rfl, hm⟩ := own_mem hil hl
          rw [List.length_map]; exact HLS.out _ hm
        have HLO : Hid (∀ l ∈ ol, ∀ q ∈ l, q.L.length ≤ 1048576) := fun l hl q hq => by
          rw [hol] at hl
          obtain ⟨j, hj, rfl, hm⟩ := own_mem hil hl
          obtain ⟨q0, hq0, rfl⟩ := List.mem_map.1 hq
          show (q0.L.map (ownD j)).length ≤ _
          rw [List.length_map]; exact HL.out _ hm q0 hq0
        have HSO : Hid (sumTo (fun i => match ol[i]? with | some l => pre l l.length | none => 0) ol.length ≤ 1048576) := by rw [hol]; exact Nat.le_trans (own_sum hil) HSM.out
        have HOWN : Hid (∀ i' j, i' < ol.length → j < clOf ol i' → OwnP i' (qOf ol i' j)) := fun i' j a b => by
          have a' : i' < i := by omega
          rw [hol] at b ⊢
          exact own_own a' b
        have HCV : Hid (Chg (fun _ => False) W w1) := HC0.out.trans hC1 (fun _ _ x => x) (fun _ _ x => x)
        have HIA : Hid (IReads w1 pa la) := HA.out.chg HCV.out
        have HIB : Hid (IReads w1 pc lb) := HBB.out.chg HCV.out
        have hn10 : ol.length ≤ 10 := by omega
        rw [← hoL]
        clear HX hAl hO hAm hC1 hT hol hoL hil hi10
        obtain ⟨V1, hV1⟩ : ∃ V1, V1 = w1 := ⟨_, rfl⟩
        subst hV1
        cases hb : tooL ol with
        | true =>
          have HB1 := keepH (fun (V : World) (hV : Chg (fun _ => False) V1 V) => both_long (c8 := c7) hV HT.out (by omega) HLSO.out HLO.out hb)
          clear hb
          go_wp2_with fail
          refine (HB1.out V1 (Chg.refl _ _)).mono ?_
          rintro e Y1 ⟨wb1, rfl, c1⟩
          have HC1 := keepH c1
          clear c1
          go_wp2_with fail
          refine (HB1.out Y1 HC1.out).mono ?_
          rintro e Y2 ⟨wb2, rfl, c2⟩
          have HC2 : Hid (Chg (fun _ => False) W Y2) := HCV.out.trans (HC1.out.trans c2 (H := fun _ => False) (fun _ _ x => x) (fun _ _ x => x)) (fun _ _ x => x) (fun _ _ x => x)
          clear c2
          go_wp2_with fail
          go_ret
          exact ⟨by simp, HC2.out⟩
        | false =>
          have HB1 := keepH (fun (V : World) (hV : Chg (fun _ => False) V1 V) => both_all (c8 := c7) hV HT.out (by omega) HLSO.out HLO.out hb)
          clear hb
          go_wp2_with fail
          refine (HB1.out V1 (Chg.refl _ _)).mono ?_
          rintro e Y1 ⟨wb, q, rfl, m, r, b, nm, sv, qv, vb, pb, K, hwb, hV, g1, d1, hK, hM1, hN1⟩
          have HC1 : Hid (Chg (fun _ => False) V1 Y1) := g1.chgW
          have HG1 := keepH g1
          have HWB := keepH hwb
          have HM1 := keepH hM1
          clear hwb hV g1 d1 hK hM1 hN1
          go_wp2_with fail
          refine (HB1.out Y1 HC1.out).mono ?_
          rintro e Y2 ⟨wb2, q2, rfl, m2, r2, b2, nm2, sv2, qv2, vb2, pb2, K2, hwb2, hV2, g2, d2, hK2, hM2, hN2⟩
          have hQ := gq_start (M1 := fun k => mineS ol.length sv qv k ∨ k = wb) (M2 := fun k => mineS ol.length sv2 qv2 k ∨ k = wb2) HG1.out g2 rfl (fun k e => e.elim .inl (fun z => .inr (.inr z))) (fun k e => ⟨e.elim .inl (fun z => .inr (.inr z)), by
            rcases e with z | z
            · exact (hN2 k z).1
            · rw [z]; exact hV2⟩)
          have HQ := keepH hQ
          have HMN : Hid (∀ X : World, (∀ k, (mineS ol.length sv qv k ∨ k = wb) ∨ (mineS ol.length sv2 qv2 k ∨ k = wb2) → X.heap[k]? = Y2.heap[k]?) → X.heap[wb]? = some (.cells #[.pointer (some ⟨m, 0, none⟩), .pointer (some ⟨r, 0, none⟩), sv] 42 (0, 0)) ∧ X.heap[wb2]? = some (.cells #[.pointer (some ⟨m2, 0, none⟩), .pointer (some ⟨r2, 0, none⟩), sv2] 42 (0, 0)) ∧ MineAt X ol sv qv pb ∧ MineAt X ol sv2 qv2 pb2) := fun X hX => by
            have y1 := (g2.chgW.block wb (lt_of HWB.out) (fun x => x)).trans HWB.out
            refine ⟨(hX wb (.inl (.inr rfl))).trans y1, (hX wb2 (.inr (.inr rfl))).trans hwb2, ⟨row_kept HM1.out.1 (fun k e => ?_), fun i hi => row_kept (HM1.out.2 i hi) (fun k e => ?_)⟩, row_kept hM2.1 (fun k e => hX k (.inr (.inl (.inl e)))), fun i hi => row_kept (hM2.2 i hi) (fun k e => hX k (.inr (.inl (.inr ⟨i, hi, e⟩))))⟩
            · exact (hX k (.inl (.inl (.inl e)))).trans (g2.chgW.block k (row_lt HM1.out.1 k e) (fun x => x))
            · exact (hX k (.inl (.inl (.inr ⟨i, hi, e⟩)))).trans (g2.chgW.block k (row_lt (HM1.out.2 i hi) k e) (fun x => x))
          clear hwb2 hV2 g2 d2 hK2 hM2 hN2 hQ HB1 HG1 HWB HM1
          obtain ⟨c0, hc0⟩ : ∃ c0, c0 = c0Of ol lp' lc' := ⟨_, rfl⟩
          rw [← hc0] at HQ
          have hst0 : c0.st = 0 := by rw [hc0]; rfl
          have HPI : Hid (PInv ol.length (clOf ol) (qOf ol) c0 ∧ rem ol.length (clOf ol) c0 ≤ 1048576 ∧ GN c0) := by
            rw [hc0]
            exact ⟨pinv_start ol lp' lc', by rw [rem_start]; exact HSO.out, fun i j => Nat.zero_le _⟩
          clear hc0
          have u1 := cell_of (HMN.out Y2 (fun k e => HQ.out.keep k e)).1 1
          go_wp2_with fail
          obtain ⟨S1, gr1, f1⟩ := HQ.out.first
          refine (gr_runS pa ca la gr1 (fun c w g => HIA.out.chg g.chgW) (by rw [hst0]; omega)).mono ?_
          rintro e X1 ⟨rfl, g⟩
          have HQ1 := keepH (f1 _ _ g)
          clear g gr1 f1 u1
          obtain ⟨c1, hc1⟩ : ∃ c1, c1 = c0.run (plK V1.heap.size V1) 200 ol.length (clOf ol) la := ⟨_, rfl⟩
          rw [← hc1] at HQ1
          have HA1 : Hid (AInv ol.length (clOf ol) (qOf ol) c0 c1 ∧ c1.st + rem ol.length (clOf ol) c1 ≤ 16777216 ∧ GN c1) := by
            have z1 := AInv.run (Lo := V1.heap.size) (W0 := V1) hn10 HOWN.out la c0 (AInv.start HPI.out.1)
            have z2 := run_rem (Lo := V1.heap.size) (W0 := V1) la c0 HPI.out.1
            have z3 := HPI.out.2.1
            have z4 := GN.run (Lo := V1.heap.size) (W0 := V1) (T := ol.length) (cl := clOf ol) la c0 HPI.out.2.2
            rw [← hc1] at z1 z2 z4
            exact ⟨z1, by rw [show c1.st = la.length by rw [hc1, run_st, hst0]; omega]; omega, z4⟩
          clear hc1
          have u1 := cell_of (HMN.out X1 (fun k e => HQ1.out.keep k e)).2.1 1
          go_wp2_with fail
          obtain ⟨S1, gr1, f1⟩ := HQ1.out.second
          refine (gr_runS pc cc lb gr1 (fun c w g => HIB.out.chg g.chgW) (by rw [hst0]; omega)).mono ?_
          rintro e X2 ⟨rfl, g⟩
          have HQ2 := keepH (f1 _ _ g)
          clear g gr1 f1 u1
          obtain ⟨c2, hc2⟩ : ∃ c2, c2 = c0.run (plK V1.heap.size V1) 200 ol.length (clOf ol) lb := ⟨_, rfl⟩
          rw [← hc2] at HQ2
          have HA2 : Hid (AInv ol.length (clOf ol) (qOf ol) c0 c2 ∧ c2.st + rem ol.length (clOf ol) c2 ≤ 16777216 ∧ GN c2) := by
            have z1 := AInv.run (Lo := V1.heap.size) (W0 := V1) hn10 HOWN.out lb c0 (AInv.start HPI.out.1)
            have z2 := run_rem (Lo := V1.heap.size) (W0 := V1) lb c0 HPI.out.1
            have z3 := HPI.out.2.1
            have z4 := GN.run (Lo := V1.heap.size) (W0 := V1) (T := ol.length) (cl := clOf ol) lb c0 HPI.out.2.2
            rw [← hc2] at z1 z2 z4
            exact ⟨z1, by rw [show c2.st = lb.length by rw [hc2, run_st, hst0]; omega]; omega, z4⟩
          clear hc2 hst0 HQ1 HQ
          have u1 := cell_of (HMN.out X2 (fun k e => HQ2.out.keep k e)).1 1
          go_wp2_with fail
          obtain ⟨S1, gr1, f1⟩ := HQ2.out.first
          refine (gr_fin gr1 HA1.out.1 HA1.out.2.2 HA1.out.2.1 hn10 HOWN.out).mono ?_
          rintro e X3 ⟨rfl, c3, g, a3, d3, n3⟩
          have HQ3 := keepH (f1 _ _ g)
          have HA3 := keepH a3
          have HD3 := keepH d3
          have HN3 := keepH n3
          clear g gr1 f1 u1 a3 d3 HQ2 n3
          have u1 := cell_of (HMN.out X3 (fun k e => HQ3.out.keep k e)).2.1 1
          go_wp2_with fail
          obtain ⟨S1, gr1, f1⟩ := HQ3.out.second
          refine (gr_fin gr1 HA2.out.1 HA2.out.2.2 HA2.out.2.1 hn10 HOWN.out).mono ?_
          rintro e X4 ⟨rfl, c4, g, a4, d4, n4⟩
          have HQ4 := keepH (f1 _ _ g)
          have HS := keepH (HA3.out.same a4 HD3.out d4)
          have HPL := keepH (fun i j (hi : i < ol.length) (hj : j < clOf ol i) => HA3.out.inv.pl i j hi hj)
          clear g gr1 f1 u1 a4 d4 n4 HQ3 HA1 HA2 HD3 HA3 HPI
          go_wp2_with fail
          go_loopw [20] (fun s20 wx => ∃ i : Nat, i ≤ 200 ∧ s20 = .int .i64 (i : Int) ∧ Hid (Chg (fun _ => False) X4 wx)) (fun s _ => 200 - (intOf s).toNat)
          case atStart => exact ⟨0, by omega, rfl, Chg.refl _ _⟩
          case round =>
            obtain ⟨i, hi200, rfl, HC⟩ := hrel
            obtain ⟨x0, hx0⟩ : ∃ q, q = wr := ⟨_, rfl⟩
            subst hx0
            have HQX := keepH (HQ4.out.quiet HC.out)
            by_cases hi : i < 200
            · have z1 : (i : Int) < 200 := by omega
              have u1 := cell_of (HMN.out x0 (fun k e => HQX.out.keep k e)).1 0
              have u2 := cell_of (HMN.out x0 (fun k e => HQX.out.keep k e)).2.1 0
              obtain ⟨v, hv⟩ : ∃ v, v = cellN c3.cs i := ⟨_, rfl⟩
              have HP1 : Hid (∀ w, Chg (fun _ => False) x0 w → Calls Try.prog 8 #[.pointer (some ⟨m, 0, none⟩), .int .u64 (i : Int)] w fun e W' => e = .returned (.int .u64 (v : Int)) ∧ W' = w) := fun w cw => by
                obtain ⟨S1, gr1, _⟩ := (HQX.out.quiet cw).first
                rw [hv]
                exact gr_peek gr1 i (by omega)
              have HP2 : Hid (∀ w, Chg (fun _ => False) x0 w → Calls Try.prog 8 #[.pointer (some ⟨m2, 0, none⟩), .int .u64 (i : Int)] w fun e W' => e = .returned (.int .u64 (v : Int)) ∧ W' = w) := fun w cw => by
                obtain ⟨S1, gr1, _⟩ := (HQX.out.quiet cw).second
                rw [hv, HS.out.1 i]
                exact gr_peek gr1 i (by omega)
              have hwr : IntKind.u64.wrap (i : Int) = (i : Int) := by rw [IntKind.wrap_u64]; omega
              clear hv
              go_upto_region 33 with fail
              go_cut [174] from 160 to 174 (fun s wx => s = .bool false ∧ Hid (Chg (fun _ => False) x0 wx))
              case first =>
                have HSS : Hid (∀ w, Chg (fun _ => False) x0 w → (w.cell? ⟨wb, 0, none⟩ = some (.pointer (some ⟨m, 0, none⟩)) ∧ w.cell? ⟨wb2, 0, none⟩ = some (.pointer (some ⟨m2, 0, none⟩)))) := fun w cw => ⟨cell_of (HMN.out w (fun k e => (HQX.out.quiet cw).keep k e)).1 0, cell_of (HMN.out w (fun k e => (HQX.out.quiet cw).keep k e)).2.1 0⟩
                refine wp_region_held_drew (S := fun w => w.cell? ⟨wb, 0, none⟩ = some (.pointer (some ⟨m, 0, none⟩)) ∧ w.cell? ⟨wb2, 0, none⟩ = some (.pointer (some ⟨m2, 0, none⟩))) (by kernel_rfl) (HSS.out _ ((Chg.refl _ _).drew)) ?_
                obtain ⟨y0, hy0⟩ : ∃ y, y = x0.drew := ⟨_, rfl⟩
                have HY0 : Hid (Chg (fun _ => False) x0 y0) := by rw [hy0]; exact (Chg.refl _ _).drew
                rw [← hy0]
                clear hy0 u1 u2
                intro hHeld
                refine wpAnyH_take (i := 0) (v := ?_) rfl (by kernel_rfl) (by kernel_rfl) (by kernel_rfl) (fun _ _ _ h => h) (Or.inl ⟨by first | rfl | kernel_rfl, ?_⟩) hHeld ?_
                rotate_left
                · intro w hSw
                  (try dsimp only at hSw)
                  go_simp
                  try with_reducible rfl
                (try simp only [Act.put, List.getElem_toArray, List.getElem_cons_zero]); (try simp only [List.setIfInBounds_toArray]); (repeat (first | simp only [List.set_cons_succ] | simp only [List.set_cons_zero]))
                refine wpAnyH_take (i := 1) (v := ?_) rfl (by kernel_rfl) (by kernel_rfl) (by kernel_rfl) (fun _ _ _ h => h) (Or.inl ⟨by first | rfl | kernel_rfl, ?_⟩) hHeld ?_
                rotate_left
                · intro w hSw
                  (try dsimp only at hSw)
                  go_simp
                  try with_reducible rfl
                (try simp only [Act.put, List.getElem_toArray, List.getElem_cons_succ, List.getElem_cons_zero]); (try simp only [List.setIfInBounds_toArray]); (repeat (first | simp only [List.set_cons_succ] | simp only [List.set_cons_zero]))
                refine wpAnyH_take (i := 2) (v := ?_) rfl (by kernel_rfl) (by kernel_rfl) (by kernel_rfl) (fun _ _ _ h => h) (Or.inl ⟨by first | rfl | kernel_rfl, ?_⟩) hHeld ?_
                rotate_left
                · intro w hSw
                  (try dsimp only at hSw)
                  go_simp
                  try with_reducible rfl
                (try simp only [Act.put, List.getElem_toArray, List.getElem_cons_succ, List.getElem_cons_zero]); (try simp only [List.setIfInBounds_toArray]); (repeat (first | simp only [List.set_cons_succ] | simp only [List.set_cons_zero]))
                refine wpAnyH_take (i := 3) (v := ?_) rfl (by kernel_rfl) (by kernel_rfl) (by kernel_rfl) (fun _ _ _ h => h) (Or.inl ⟨by first | rfl | kernel_rfl, ?_⟩) hHeld ?_
                rotate_left
                · intro w hSw
                  (try dsimp only at hSw)
                  go_simp
                  try with_reducible rfl
                (try simp only [Act.put, List.getElem_toArray, List.getElem_cons_succ, List.getElem_cons_zero]); (try simp only [List.setIfInBounds_toArray]); (repeat (first | simp only [List.set_cons_succ] | simp only [List.set_cons_zero]))
                refine wpAnyH_take (i := 4) (v := ?_) rfl (by kernel_rfl) (by kernel_rfl) (by kernel_rfl) (fun _ _ _ h => h) (Or.inl ⟨by first | rfl | kernel_rfl, ?_⟩) hHeld ?_
                rotate_left
                · intro w hSw
                  (try dsimp only at hSw)
                  go_simp
                  try with_reducible rfl
                (try simp only [Act.put, List.getElem_toArray, List.getElem_cons_succ, List.getElem_cons_zero]); (try simp only [List.setIfInBounds_toArray]); (repeat (first | simp only [List.set_cons_succ] | simp only [List.set_cons_zero]))
                refine wpAnyH_take (i := 5) (v := ?_) rfl (by kernel_rfl) (by kernel_rfl) (by kernel_rfl) (fun _ _ _ h => h) (Or.inl ⟨by first | rfl | kernel_rfl, ?_⟩) hHeld ?_
                rotate_left
                · intro w hSw
                  (try dsimp only at hSw)
                  go_simp
                  try with_reducible rfl
                (try simp only [Act.put, List.getElem_toArray, List.getElem_cons_succ, List.getElem_cons_zero]); (try simp only [List.setIfInBounds_toArray]); (repeat (first | simp only [List.set_cons_succ] | simp only [List.set_cons_zero]))
                refine wpAnyH_take (i := 7) (v := ?_) rfl (by kernel_rfl) (by kernel_rfl) (by kernel_rfl) (fun _ _ _ h => h) (Or.inl ⟨by first | rfl | kernel_rfl, ?_⟩) hHeld ?_
                rotate_left
                · intro w hSw
                  (try dsimp only at hSw)
                  go_simp
                  try with_reducible rfl
                (try simp only [Act.put, List.getElem_toArray, List.getElem_cons_succ, List.getElem_cons_zero]); (try simp only [List.setIfInBounds_toArray]); (repeat (first | simp only [List.set_cons_succ] | simp only [List.set_cons_zero]))
                refine wpAnyH_take (i := 8) (v := ?_) rfl (by kernel_rfl) (by kernel_rfl) (by kernel_rfl) (fun _ _ _ h => h) (Or.inl ⟨by first | rfl | kernel_rfl, ?_⟩) hHeld ?_
                rotate_left
                · intro w hSw
                  (try dsimp only at hSw)
                  go_simp
                  try with_reducible rfl
                (try simp only [Act.put, List.getElem_toArray, List.getElem_cons_succ, List.getElem_cons_zero]); (try simp only [List.setIfInBounds_toArray]); (repeat (first | simp only [List.set_cons_succ] | simp only [List.set_cons_zero]))
                refine wpAnyH_take (i := 9) (v := ?_) rfl (by kernel_rfl) (by kernel_rfl) (by kernel_rfl) (fun _ _ _ h => h) (Or.inl ⟨by first | rfl | kernel_rfl, ?_⟩) hHeld ?_
                rotate_left
                · intro w hSw
                  (try dsimp only at hSw)
                  go_simp
                  try with_reducible rfl
                (try simp only [Act.put, List.getElem_toArray, List.getElem_cons_succ, List.getElem_cons_zero]); (try simp only [List.setIfInBounds_toArray]); (repeat (first | simp only [List.set_cons_succ] | simp only [List.set_cons_zero]))
                refine wpAnyH_take (i := 10) (v := ?_) rfl (by kernel_rfl) (by kernel_rfl) (by kernel_rfl) (fun _ _ _ h => h) (Or.inl ⟨by first | rfl | kernel_rfl, ?_⟩) hHeld ?_
                rotate_left
                · intro w hSw
                  (try dsimp only at hSw)
                  go_simp
                  try with_reducible rfl
                (try simp only [Act.put, List.getElem_toArray, List.getElem_cons_succ, List.getElem_cons_zero]); (try simp only [List.setIfInBounds_toArray]); (repeat (first | simp only [List.set_cons_succ] | simp only [List.set_cons_zero]))
                refine wpAnyH_take (i := 11) (v := ?_) rfl (by kernel_rfl) (by kernel_rfl) (by kernel_rfl) (fun _ _ _ h => h) (Or.inl ⟨by first | rfl | kernel_rfl, ?_⟩) hHeld ?_
                rotate_left
                · intro w hSw
                  (try dsimp only at hSw)
                  go_simp
                  try with_reducible rfl
                (try simp only [Act.put, List.getElem_toArray, List.getElem_cons_succ, List.getElem_cons_zero]); (try simp only [List.setIfInBounds_toArray]); (repeat (first | simp only [List.set_cons_succ] | simp only [List.set_cons_zero]))
                refine wpAnyH_take (i := 12) (v := ?_) rfl (by kernel_rfl) (by kernel_rfl) (by kernel_rfl) (fun _ _ _ h => h) (Or.inl ⟨by first | rfl | kernel_rfl, ?_⟩) hHeld ?_
                rotate_left
                · intro w hSw
                  (try dsimp only at hSw)
                  go_simp
                  try with_reducible rfl
                (try simp only [Act.put, List.getElem_toArray, List.getElem_cons_succ, List.getElem_cons_zero]); (try simp only [List.setIfInBounds_toArray]); (repeat (first | simp only [List.set_cons_succ] | simp only [List.set_cons_zero]))
                refine wpAnyH_ready (rs := [6]) (by kernel_rfl) (by simp) ?_
                refine (AllReadyH.cons rfl (fun KK hKK => ?_) AllReadyH.nil)
                go_simp
                go_at_call 8
                refine (HP1.out _ HY0.out).mono ?_
                rintro e y1 ⟨rfl, rfl⟩
                (try go_wp2_with fail)
                refine hKK.out _ _ ?_ (fun hHeld => ?_)
                · exact HSS.out _ HY0.out
                clear hKK KK
                (try simp only [Act.put, List.getElem_toArray, List.getElem_cons_succ, List.getElem_cons_zero]); (try simp only [List.setIfInBounds_toArray]); (repeat (first | simp only [List.set_cons_succ] | simp only [List.set_cons_zero]))
                refine wpAnyH_ready (rs := [13]) (by kernel_rfl) (by simp) ?_
                refine (AllReadyH.cons rfl (fun KK hKK => ?_) AllReadyH.nil)
                go_simp
                go_at_call 8
                refine (HP2.out _ HY0.out).mono ?_
                rintro e y1 ⟨rfl, rfl⟩
                (try go_wp2_with fail)
                refine hKK.out _ _ ?_ (fun hHeld => ?_)
                · exact HSS.out _ HY0.out
                clear hKK KK
                (try simp only [Act.put, List.getElem_toArray, List.getElem_cons_succ, List.getElem_cons_zero]); (try simp only [List.setIfInBounds_toArray]); (repeat (first | simp only [List.set_cons_succ] | simp only [List.set_cons_zero]))
                refine wpAnyH_take (i := 14) (v := ?_) rfl (by kernel_rfl) (by kernel_rfl) (by kernel_rfl) (fun _ _ _ h => h) (Or.inl ⟨by first | rfl | kernel_rfl, ?_⟩) hHeld ?_
                rotate_left
                · intro w hSw
                  (try dsimp only at hSw)
                  go_simp
                  try with_reducible rfl
                (try simp only [Act.put, List.getElem_toArray, List.getElem_cons_succ, List.getElem_cons_zero]); (try simp only [List.setIfInBounds_toArray]); (repeat (first | simp only [List.set_cons_succ] | simp only [List.set_cons_zero]))
                refine wpAnyH_done (by kernel_rfl) ?_ _
                go_simp
                (try go_wp2_with fail)
                go_meet
                exact ⟨by first | rfl | simp, HY0⟩
              case rest =>
                obtain ⟨rfl, HCW⟩ := hcut
                obtain ⟨wn, hwn⟩ : ∃ q, q = wc := ⟨_, rfl⟩
                subst hwn
                go_wp2_with fail
                go_roundw
                case rel => exact ⟨i + 1, by omega, by first | rfl | go_num, HC.out.trans HCW.out (fun _ _ x => x) (fun _ _ x => x)⟩
                case measure => simp [intOf]; omega
            · have z1 : ¬ (i : Int) < 200 := by omega
              have HCX := HC
              clear hi hi200
              obtain ⟨psv, csv, esv⟩ := slice_of (HMN.out x0 (fun k e => HQX.out.keep k e)).2.2.1.1
              obtain ⟨psv2, csv2, esv2⟩ := slice_of (HMN.out x0 (fun k e => HQX.out.keep k e)).2.2.2.1
              subst esv esv2
              clear HQX
              go_wp2_with fail
              go_loopw [21] (fun s21 wx => ∃ i : Nat, i ≤ ol.length ∧ s21 = .int .i64 (i : Int) ∧ Hid (Chg (fun _ => False) X4 wx)) (fun s _ => ol.length - (intOf s).toNat)
              case atStart => exact ⟨0, Nat.zero_le _, rfl, HCX⟩
              case round =>
                clear HC HCX
                obtain ⟨i, hin, rfl, HC⟩ := hrel
                obtain ⟨y0, hy0⟩ : ∃ q, q = wr := ⟨_, rfl⟩
                subst hy0
                have HF := keepH (fun (w : World) (cw : Chg (fun _ => False) X4 w) => HMN.out w (fun k e => (HQ4.out.quiet cw).keep k e))
                have v0 := cell_of (HF.out y0 HC.out).1 2
                by_cases hi : i < ol.length
                · have t1 : (i : Int) < (ol.length : Int) := by omega
                  obtain ⟨gsv, csv', e1⟩ := slice_pos (HF.out y0 HC.out).2.2.1.1 (by omega)
                  injection e1 with e1 _ _
                  subst e1
                  obtain ⟨gsv2, csv2', e2⟩ := slice_pos (HF.out y0 HC.out).2.2.2.1 (by omega)
                  injection e2 with e2 _ _
                  subst e2
                  obtain ⟨pq, cq, eq⟩ := slice_of ((HF.out y0 HC.out).2.2.1.2 i hi)
                  obtain ⟨pq2, cq2, eq2⟩ := slice_of ((HF.out y0 HC.out).2.2.2.2 i hi)
                  obtain ⟨I, hI⟩ : ∃ I, I = idxL (lOf ol i) := ⟨_, rfl⟩
                  have hpl : (ptL (lOf ol i) (pb i) (lOf ol i).length) = I.map (fun j => .pointer (some ⟨pb i j, 0, none⟩)) := by rw [hI]; exact ptL_idx _ _
                  have hpl2 : (ptL (lOf ol i) (pb2 i) (lOf ol i).length) = I.map (fun j => .pointer (some ⟨pb2 i j, 0, none⟩)) := by rw [hI]; exact ptL_idx _ _
                  rw [hpl, List.length_map] at eq
                  rw [hpl2, List.length_map] at eq2
                  have HQC : Hid (∀ w, Chg (fun _ => False) X4 w → w.cell? ⟨gsv, i, none⟩ = some (.slice pq I.length cq) ∧ w.cell? ⟨gsv2, i, none⟩ = some (.slice pq2 I.length cq2) ∧ w.cell? ⟨wb, 2, none⟩ = some (.slice (some ⟨gsv, 0, none⟩) ol.length csv) ∧ w.cell? ⟨wb2, 2, none⟩ = some (.slice (some ⟨gsv2, 0, none⟩) ol.length csv2)) := fun w cw => by
                    have a := HF.out w cw
                    refine ⟨?_, ?_, cell_of a.1 2, cell_of a.2.1 2⟩
                    · have z := World.ownsRow.cellAt a.2.2.1.1 i (by omega)
                      rw [z, List.getElem?_map, List.getElem?_range hi, ← eq]
                      rfl
                    · have z := World.ownsRow.cellAt a.2.2.2.1 i (by omega)
                      rw [z, List.getElem?_map, List.getElem?_range hi, ← eq2]
                      rfl
                  have HQJ : Hid (∀ w, Chg (fun _ => False) X4 w → ∀ k j, I[k]? = some j → ∃ (gq gq2 : Nat) (G : List Nat) (gv gv2 : Value), pq = some ⟨gq, 0, none⟩ ∧ pq2 = some ⟨gq2, 0, none⟩ ∧ w.cell? ⟨gq, k, none⟩ = some (.pointer (some ⟨pb i j, 0, none⟩)) ∧ w.cell? ⟨gq2, k, none⟩ = some (.pointer (some ⟨pb2 i j, 0, none⟩)) ∧ w.cell? ⟨pb i j, 2, none⟩ = some gv ∧ w.cell? ⟨pb2 i j, 2, none⟩ = some gv2 ∧ w.ownsRow 0 30 1 gv G.length (G.map u64V) ∧ w.ownsRow 0 30 1 gv2 G.length (G.map u64V) ∧ G.length ≤ 16777216) := fun w cw k j hj => by
                    have kl := (List.getElem?_eq_some_iff.1 hj).1
                    have a := HF.out w cw
                    have hq := HQ4.out.quiet cw
                    have z0 := a.2.2.1.2 i hi
                    rw [hpl, List.length_map, eq] at z0
                    obtain ⟨gq, c', e'⟩ := slice_pos z0 (by omega)
                    injection e' with e1 _ e3
                    subst e1 e3
                    have z1 := a.2.2.2.2 i hi
                    rw [hpl2, List.length_map, eq2] at z1
                    obtain ⟨gq2, c'', e'⟩ := slice_pos z1 (by omega)
                    injection e' with e1 _ e3
                    subst e1 e3
                    have y0 := World.ownsRow.cellAt z0 k (by omega)
                    rw [List.getElem?_map, hj] at y0
                    have y1 := World.ownsRow.cellAt z1 k (by omega)
                    rw [List.getElem?_map, hj] at y1
                    have hm : j ∈ idxL (lOf ol i) := by rw [← hI]; exact List.mem_of_getElem? hj
                    obtain ⟨a1, a2⟩ := idxL_lt hm
                    have hno := a2 _ (qOf_get a1)
                    obtain ⟨S1, g1, _⟩ := hq.first
                    obtain ⟨S2, g2, _⟩ := hq.second
                    obtain ⟨gv, b1, b2⟩ := gr_got g1 hi a1 (HPL.out i j hi a1) hno
                    obtain ⟨gv2, b3, b4⟩ := gr_got g2 hi a1 (by rw [← HS.out.2 i hi j]; exact HPL.out i j hi a1) hno
                    rw [← HS.out.2 i hi j] at b4
                    exact ⟨gq, gq2, (c3.σ i j).got, gv, gv2, rfl, rfl, y0, y1, b1, b3, b2, b4, HN3.out i j⟩
                  have hIN : I.length ≤ 1048576 := by rw [hI]; exact Nat.le_trans (idxL_len _) (HLSO.out _ (List.mem_of_getElem? (lOf_get hi)))
                  clear hpl hpl2 eq eq2 hI
                  have v1 := (HQC.out y0 HC.out).1
                  go_wp2_with fail
                  go_loopw [22] (fun s22 wx => ∃ k : Nat, k ≤ I.length ∧ s22 = .int .i64 (k : Int) ∧ Hid (Chg (fun _ => False) X4 wx)) (fun s _ => I.length - (intOf s).toNat)
                  case atStart => exact ⟨0, Nat.zero_le _, rfl, HC⟩
                  case round =>
                    obtain ⟨k, hkl, rfl, HC2⟩ := hrel
                    obtain ⟨y1, hy1⟩ : ∃ q, q = wr := ⟨_, rfl⟩
                    subst hy1
                    clear v0 v1
                    obtain ⟨v1, v2, v3, v4⟩ := HQC.out y1 HC2.out
                    by_cases hk : k < I.length
                    · have t2 : (k : Int) < (I.length : Int) := by omega
                      obtain ⟨j, hj⟩ : ∃ j, I[k]? = some j := ⟨I[k], List.getElem?_eq_getElem hk⟩
                      obtain ⟨gq, gq2, G, gv, gv2, rfl, rfl, v5, v6, v7, v8, v9, va, hG⟩ := HQJ.out y1 HC2.out k j hj
                      obtain ⟨p1, c1', rfl⟩ := slice_of v9
                      obtain ⟨p2, c2', rfl⟩ := slice_of va
                      have HSU : Hid (∀ w, Chg (fun _ => False) y1 w → Calls Try.prog 9 #[.slice p1 G.length c1', .slice p2 G.length c2'] w fun e W' => e = .returned (.bool true) ∧ ∃ n, W' = w.drewN n) := fun w cw => s_sameUq p1 p2 c1' c2' G _ (UReads.of_row (row_kept v9 fun k e => cw.block k (row_lt v9 k e) (fun x => x))) (UReads.of_row (row_kept va fun k e => cw.block k (row_lt va k e) (fun x => x))) (by omega)
                      obtain ⟨y2, hy2⟩ : ∃ y, y = y1.drew := ⟨_, rfl⟩
                      have HY2 : Hid (Chg (fun _ => False) y1 y2) := by rw [hy2]; exact (Chg.refl _ _).drew
                      have HSS : Hid ((fun w => w.cell? ⟨wb, 2, none⟩ = some (.slice (some ⟨gsv, 0, none⟩) ol.length csv) ∧ w.cell? ⟨gsv, i, none⟩ = some (.slice (some ⟨gq, 0, none⟩) I.length cq) ∧ w.cell? ⟨gq, k, none⟩ = some (.pointer (some ⟨pb i j, 0, none⟩)) ∧ w.cell? ⟨pb i j, 2, none⟩ = some (.slice p1 G.length c1') ∧ w.cell? ⟨wb2, 2, none⟩ = some (.slice (some ⟨gsv2, 0, none⟩) ol.length csv2) ∧ w.cell? ⟨gsv2, i, none⟩ = some (.slice (some ⟨gq2, 0, none⟩) I.length cq2) ∧ w.cell? ⟨gq2, k, none⟩ = some (.pointer (some ⟨pb2 i j, 0, none⟩)) ∧ w.cell? ⟨pb2 i j, 2, none⟩ = some (.slice p2 G.length c2')) y2) := by rw [hy2]; exact ⟨v3, v1, v5, v7, v4, v2, v6, v8⟩
                      have HSS2 : Hid (∀ q, (fun w => w.cell? ⟨wb, 2, none⟩ = some (.slice (some ⟨gsv, 0, none⟩) ol.length csv) ∧ w.cell? ⟨gsv, i, none⟩ = some (.slice (some ⟨gq, 0, none⟩) I.length cq) ∧ w.cell? ⟨gq, k, none⟩ = some (.pointer (some ⟨pb i j, 0, none⟩)) ∧ w.cell? ⟨pb i j, 2, none⟩ = some (.slice p1 G.length c1') ∧ w.cell? ⟨wb2, 2, none⟩ = some (.slice (some ⟨gsv2, 0, none⟩) ol.length csv2) ∧ w.cell? ⟨gsv2, i, none⟩ = some (.slice (some ⟨gq2, 0, none⟩) I.length cq2) ∧ w.cell? ⟨gq2, k, none⟩ = some (.pointer (some ⟨pb2 i j, 0, none⟩)) ∧ w.cell? ⟨pb2 i j, 2, none⟩ = some (.slice p2 G.length c2')) (y2.drewN q)) := fun q => HSS.out
                      clear v9 va hj
                      go_upto_region 41 with fail
                      clear v1 v2 v3 v4 v5 v6 v7 v8
                      go_cut [223] from 196 to 223 (fun s wx => s = .bool false ∧ Hid (Chg (fun _ => False) y1 wx))
                      case first =>
                        refine wp_region_held_drew (S := fun w => w.cell? ⟨wb, 2, none⟩ = some (.slice (some ⟨gsv, 0, none⟩) ol.length csv) ∧ w.cell? ⟨gsv, i, none⟩ = some (.slice (some ⟨gq, 0, none⟩) I.length cq) ∧ w.cell? ⟨gq, k, none⟩ = some (.pointer (some ⟨pb i j, 0, none⟩)) ∧ w.cell? ⟨pb i j, 2, none⟩ = some (.slice p1 G.length c1') ∧ w.cell? ⟨wb2, 2, none⟩ = some (.slice (some ⟨gsv2, 0, none⟩) ol.length csv2) ∧ w.cell? ⟨gsv2, i, none⟩ = some (.slice (some ⟨gq2, 0, none⟩) I.length cq2) ∧ w.cell? ⟨gq2, k, none⟩ = some (.pointer (some ⟨pb2 i j, 0, none⟩)) ∧ w.cell? ⟨pb2 i j, 2, none⟩ = some (.slice p2 G.length c2')) (by kernel_rfl) (by rw [← hy2]; exact HSS.out) ?_
                        rw [← hy2]
                        clear hy2
                        intro hHeld
                        refine wpAnyH_take (i := 0) (v := ?_) rfl (by kernel_rfl) (by kernel_rfl) (by kernel_rfl) (fun _ _ _ h => h) (Or.inl ⟨by first | rfl | kernel_rfl, ?_⟩) hHeld ?_
                        rotate_left
                        · intro w hSw
                          (try dsimp only at hSw)
                          go_simp
                          try with_reducible rfl
                        (try simp only [Act.put, List.getElem_toArray, List.getElem_cons_zero]); (try simp only [List.setIfInBounds_toArray]); (repeat (first | simp only [List.set_cons_succ] | simp only [List.set_cons_zero]))
                        refine wpAnyH_take (i := 1) (v := ?_) rfl (by kernel_rfl) (by kernel_rfl) (by kernel_rfl) (fun _ _ _ h => h) (Or.inl ⟨by first | rfl | kernel_rfl, ?_⟩) hHeld ?_
                        rotate_left
                        · intro w hSw
                          (try dsimp only at hSw)
                          go_simp
                          try with_reducible rfl
                        (try simp only [Act.put, List.getElem_toArray, List.getElem_cons_succ, List.getElem_cons_zero]); (try simp only [List.setIfInBounds_toArray]); (repeat (first | simp only [List.set_cons_succ] | simp only [List.set_cons_zero]))
                        refine wpAnyH_take (i := 2) (v := ?_) rfl (by kernel_rfl) (by kernel_rfl) (by kernel_rfl) (fun _ _ _ h => h) (Or.inl ⟨by first | rfl | kernel_rfl, ?_⟩) hHeld ?_
                        rotate_left
                        · intro w hSw
                          (try dsimp only at hSw)
                          go_simp
                          try with_reducible rfl
                        (try simp only [Act.put, List.getElem_toArray, List.getElem_cons_succ, List.getElem_cons_zero]); (try simp only [List.setIfInBounds_toArray]); (repeat (first | simp only [List.set_cons_succ] | simp only [List.set_cons_zero]))
                        refine wpAnyH_take (i := 3) (v := ?_) rfl (by kernel_rfl) (by kernel_rfl) (by kernel_rfl) (fun _ _ _ h => h) (Or.inl ⟨by first | rfl | kernel_rfl, ?_⟩) hHeld ?_
                        rotate_left
                        · intro w hSw
                          (try dsimp only at hSw)
                          go_simp
                          try with_reducible rfl
                        (try simp only [Act.put, List.getElem_toArray, List.getElem_cons_succ, List.getElem_cons_zero]); (try simp only [List.setIfInBounds_toArray]); (repeat (first | simp only [List.set_cons_succ] | simp only [List.set_cons_zero]))
                        refine wpAnyH_take (i := 4) (v := ?_) rfl (by kernel_rfl) (by kernel_rfl) (by kernel_rfl) (fun _ _ _ h => h) (Or.inl ⟨by first | rfl | kernel_rfl, ?_⟩) hHeld ?_
                        rotate_left
                        · intro w hSw
                          (try dsimp only at hSw)
                          go_simp
                          try with_reducible rfl
                        (try simp only [Act.put, List.getElem_toArray, List.getElem_cons_succ, List.getElem_cons_zero]); (try simp only [List.setIfInBounds_toArray]); (repeat (first | simp only [List.set_cons_succ] | simp only [List.set_cons_zero]))
                        refine wpAnyH_take (i := 5) (v := ?_) rfl (by kernel_rfl) (by kernel_rfl) (by kernel_rfl) (fun _ _ _ h => h) (Or.inl ⟨by first | rfl | kernel_rfl, ?_⟩) hHeld ?_
                        rotate_left
                        · intro w hSw
                          (try dsimp only at hSw)
                          go_simp
                          try with_reducible rfl
                        (try simp only [Act.put, List.getElem_toArray, List.getElem_cons_succ, List.getElem_cons_zero]); (try simp only [List.setIfInBounds_toArray]); (repeat (first | simp only [List.set_cons_succ] | simp only [List.set_cons_zero]))
                        refine wpAnyH_take (i := 6) (v := ?_) rfl (by kernel_rfl) (by kernel_rfl) (by kernel_rfl) (fun _ _ _ h => h) (Or.inl ⟨by first | rfl | kernel_rfl, ?_⟩) hHeld ?_
                        rotate_left
                        · intro w hSw
                          (try dsimp only at hSw)
                          go_simp
                          try with_reducible rfl
                        (try simp only [Act.put, List.getElem_toArray, List.getElem_cons_succ, List.getElem_cons_zero]); (try simp only [List.setIfInBounds_toArray]); (repeat (first | simp only [List.set_cons_succ] | simp only [List.set_cons_zero]))
                        refine wpAnyH_take (i := 7) (v := ?_) rfl (by kernel_rfl) (by kernel_rfl) (by kernel_rfl) (fun _ _ _ h => h) (Or.inl ⟨by first | rfl | kernel_rfl, ?_⟩) hHeld ?_
                        rotate_left
                        · intro w hSw
                          (try dsimp only at hSw)
                          go_simp
                          try with_reducible rfl
                        (try simp only [Act.put, List.getElem_toArray, List.getElem_cons_succ, List.getElem_cons_zero]); (try simp only [List.setIfInBounds_toArray]); (repeat (first | simp only [List.set_cons_succ] | simp only [List.set_cons_zero]))
                        refine wpAnyH_take (i := 8) (v := ?_) rfl (by kernel_rfl) (by kernel_rfl) (by kernel_rfl) (fun _ _ _ h => h) (Or.inl ⟨by first | rfl | kernel_rfl, ?_⟩) hHeld ?_
                        rotate_left
                        · intro w hSw
                          (try dsimp only at hSw)
                          go_simp
                          try with_reducible rfl
                        (try simp only [Act.put, List.getElem_toArray, List.getElem_cons_succ, List.getElem_cons_zero]); (try simp only [List.setIfInBounds_toArray]); (repeat (first | simp only [List.set_cons_succ] | simp only [List.set_cons_zero]))
                        refine wpAnyH_take (i := 9) (v := ?_) rfl (by kernel_rfl) (by kernel_rfl) (by kernel_rfl) (fun _ _ _ h => h) (Or.inl ⟨by first | rfl | kernel_rfl, ?_⟩) hHeld ?_
                        rotate_left
                        · intro w hSw
                          (try dsimp only at hSw)
                          go_simp
                          try with_reducible rfl
                        (try simp only [Act.put, List.getElem_toArray, List.getElem_cons_succ, List.getElem_cons_zero]); (try simp only [List.setIfInBounds_toArray]); (repeat (first | simp only [List.set_cons_succ] | simp only [List.set_cons_zero]))
                        refine wpAnyH_take (i := 10) (v := ?_) rfl (by kernel_rfl) (by kernel_rfl) (by kernel_rfl) (fun _ _ _ h => h) (Or.inl ⟨by first | rfl | kernel_rfl, ?_⟩) hHeld ?_
                        rotate_left
                        · intro w hSw
                          (try dsimp only at hSw)
                          go_simp
                          try with_reducible rfl
                        (try simp only [Act.put, List.getElem_toArray, List.getElem_cons_succ, List.getElem_cons_zero]); (try simp only [List.setIfInBounds_toArray]); (repeat (first | simp only [List.set_cons_succ] | simp only [List.set_cons_zero]))
                        refine wpAnyH_take (i := 11) (v := ?_) rfl (by kernel_rfl) (by kernel_rfl) (by kernel_rfl) (fun _ _ _ h => h) (Or.inl ⟨by first | rfl | kernel_rfl, ?_⟩) hHeld ?_
                        rotate_left
                        · intro w hSw
                          (try dsimp only at hSw)
                          go_simp
                          try with_reducible rfl
                        (try simp only [Act.put, List.getElem_toArray, List.getElem_cons_succ, List.getElem_cons_zero]); (try simp only [List.setIfInBounds_toArray]); (repeat (first | simp only [List.set_cons_succ] | simp only [List.set_cons_zero]))
                        refine wpAnyH_take (i := 12) (v := ?_) rfl (by kernel_rfl) (by kernel_rfl) (by kernel_rfl) (fun _ _ _ h => h) (Or.inl ⟨by first | rfl | kernel_rfl, ?_⟩) hHeld ?_
                        rotate_left
                        · intro w hSw
                          (try dsimp only at hSw)
                          go_simp
                          try with_reducible rfl
                        (try simp only [Act.put, List.getElem_toArray, List.getElem_cons_succ, List.getElem_cons_zero]); (try simp only [List.setIfInBounds_toArray]); (repeat (first | simp only [List.set_cons_succ] | simp only [List.set_cons_zero]))
                        refine wpAnyH_take (i := 13) (v := ?_) rfl (by kernel_rfl) (by kernel_rfl) (by kernel_rfl) (fun _ _ _ h => h) (Or.inl ⟨by first | rfl | kernel_rfl, ?_⟩) hHeld ?_
                        rotate_left
                        · intro w hSw
                          (try dsimp only at hSw)
                          go_simp
                          try with_reducible rfl
                        (try simp only [Act.put, List.getElem_toArray, List.getElem_cons_succ, List.getElem_cons_zero]); (try simp only [List.setIfInBounds_toArray]); (repeat (first | simp only [List.set_cons_succ] | simp only [List.set_cons_zero]))
                        refine wpAnyH_take (i := 14) (v := ?_) rfl (by kernel_rfl) (by kernel_rfl) (by kernel_rfl) (fun _ _ _ h => h) (Or.inl ⟨by first | rfl | kernel_rfl, ?_⟩) hHeld ?_
                        rotate_left
                        · intro w hSw
                          (try dsimp only at hSw)
                          go_simp
                          try with_reducible rfl
                        (try simp only [Act.put, List.getElem_toArray, List.getElem_cons_succ, List.getElem_cons_zero]); (try simp only [List.setIfInBounds_toArray]); (repeat (first | simp only [List.set_cons_succ] | simp only [List.set_cons_zero]))
                        refine wpAnyH_take (i := 15) (v := ?_) rfl (by kernel_rfl) (by kernel_rfl) (by kernel_rfl) (fun _ _ _ h => h) (Or.inl ⟨by first | rfl | kernel_rfl, ?_⟩) hHeld ?_
                        rotate_left
                        · intro w hSw
                          (try dsimp only at hSw)
                          go_simp
                          try with_reducible rfl
                        (try simp only [Act.put, List.getElem_toArray, List.getElem_cons_succ, List.getElem_cons_zero]); (try simp only [List.setIfInBounds_toArray]); (repeat (first | simp only [List.set_cons_succ] | simp only [List.set_cons_zero]))
                        refine wpAnyH_take (i := 16) (v := ?_) rfl (by kernel_rfl) (by kernel_rfl) (by kernel_rfl) (fun _ _ _ h => h) (Or.inl ⟨by first | rfl | kernel_rfl, ?_⟩) hHeld ?_
                        rotate_left
                        · intro w hSw
                          (try dsimp only at hSw)
                          go_simp
                          try with_reducible rfl
                        (try simp only [Act.put, List.getElem_toArray, List.getElem_cons_succ, List.getElem_cons_zero]); (try simp only [List.setIfInBounds_toArray]); (repeat (first | simp only [List.set_cons_succ] | simp only [List.set_cons_zero]))
                        refine wpAnyH_take (i := 17) (v := ?_) rfl (by kernel_rfl) (by kernel_rfl) (by kernel_rfl) (fun _ _ _ h => h) (Or.inl ⟨by first | rfl | kernel_rfl, ?_⟩) hHeld ?_
                        rotate_left
                        · intro w hSw
                          (try dsimp only at hSw)
                          go_simp
                          try with_reducible rfl
                        (try simp only [Act.put, List.getElem_toArray, List.getElem_cons_succ, List.getElem_cons_zero]); (try simp only [List.setIfInBounds_toArray]); (repeat (first | simp only [List.set_cons_succ] | simp only [List.set_cons_zero]))
                        refine wpAnyH_take (i := 18) (v := ?_) rfl (by kernel_rfl) (by kernel_rfl) (by kernel_rfl) (fun _ _ _ h => h) (Or.inl ⟨by first | rfl | kernel_rfl, ?_⟩) hHeld ?_
                        rotate_left
                        · intro w hSw
                          (try dsimp only at hSw)
                          go_simp
                          try with_reducible rfl
                        (try simp only [Act.put, List.getElem_toArray, List.getElem_cons_succ, List.getElem_cons_zero]); (try simp only [List.setIfInBounds_toArray]); (repeat (first | simp only [List.set_cons_succ] | simp only [List.set_cons_zero]))
                        refine wpAnyH_take (i := 19) (v := ?_) rfl (by kernel_rfl) (by kernel_rfl) (by kernel_rfl) (fun _ _ _ h => h) (Or.inl ⟨by first | rfl | kernel_rfl, ?_⟩) hHeld ?_
                        rotate_left
                        · intro w hSw
                          (try dsimp only at hSw)
                          go_simp
                          try with_reducible rfl
                        (try simp only [Act.put, List.getElem_toArray, List.getElem_cons_succ, List.getElem_cons_zero]); (try simp only [List.setIfInBounds_toArray]); (repeat (first | simp only [List.set_cons_succ] | simp only [List.set_cons_zero]))
                        refine wpAnyH_take (i := 20) (v := ?_) rfl (by kernel_rfl) (by kernel_rfl) (by kernel_rfl) (fun _ _ _ h => h) (Or.inl ⟨by first | rfl | kernel_rfl, ?_⟩) hHeld ?_
                        rotate_left
                        · intro w hSw
                          (try dsimp only at hSw)
                          go_simp
                          try with_reducible rfl
                        (try simp only [Act.put, List.getElem_toArray, List.getElem_cons_succ, List.getElem_cons_zero]); (try simp only [List.setIfInBounds_toArray]); (repeat (first | simp only [List.set_cons_succ] | simp only [List.set_cons_zero]))
                        refine wpAnyH_take (i := 21) (v := ?_) rfl (by kernel_rfl) (by kernel_rfl) (by kernel_rfl) (fun _ _ _ h => h) (Or.inl ⟨by first | rfl | kernel_rfl, ?_⟩) hHeld ?_
                        rotate_left
                        · intro w hSw
                          (try dsimp only at hSw)
                          go_simp
                          try with_reducible rfl
                        (try simp only [Act.put, List.getElem_toArray, List.getElem_cons_succ, List.getElem_cons_zero]); (try simp only [List.setIfInBounds_toArray]); (repeat (first | simp only [List.set_cons_succ] | simp only [List.set_cons_zero]))
                        refine wpAnyH_take (i := 22) (v := ?_) rfl (by kernel_rfl) (by kernel_rfl) (by kernel_rfl) (fun _ _ _ h => h) (Or.inl ⟨by first | rfl | kernel_rfl, ?_⟩) hHeld ?_
                        rotate_left
                        · intro w hSw
                          (try dsimp only at hSw)
                          go_simp
                          try with_reducible rfl
                        (try simp only [Act.put, List.getElem_toArray, List.getElem_cons_succ, List.getElem_cons_zero]); (try simp only [List.setIfInBounds_toArray]); (repeat (first | simp only [List.set_cons_succ] | simp only [List.set_cons_zero]))
                        refine wpAnyH_take (i := 23) (v := ?_) rfl (by kernel_rfl) (by kernel_rfl) (by kernel_rfl) (fun _ _ _ h => h) (Or.inl ⟨by first | rfl | kernel_rfl, ?_⟩) hHeld ?_
                        rotate_left
                        · intro w hSw
                          (try dsimp only at hSw)
                          go_simp
                          try with_reducible rfl
                        (try simp only [Act.put, List.getElem_toArray, List.getElem_cons_succ, List.getElem_cons_zero]); (try simp only [List.setIfInBounds_toArray]); (repeat (first | simp only [List.set_cons_succ] | simp only [List.set_cons_zero]))
                        refine wpAnyH_take (i := 24) (v := ?_) rfl (by kernel_rfl) (by kernel_rfl) (by kernel_rfl) (fun _ _ _ h => h) (Or.inl ⟨by first | rfl | kernel_rfl, ?_⟩) hHeld ?_
                        rotate_left
                        · intro w hSw
                          (try dsimp only at hSw)
                          go_simp
                          try with_reducible rfl
                        (try simp only [Act.put, List.getElem_toArray, List.getElem_cons_succ, List.getElem_cons_zero]); (try simp only [List.setIfInBounds_toArray]); (repeat (first | simp only [List.set_cons_succ] | simp only [List.set_cons_zero]))
                        refine wpAnyH_take (i := 25) (v := ?_) rfl (by kernel_rfl) (by kernel_rfl) (by kernel_rfl) (fun _ _ _ h => h) (Or.inl ⟨by first | rfl | kernel_rfl, ?_⟩) hHeld ?_
                        rotate_left
                        · intro w hSw
                          (try dsimp only at hSw)
                          go_simp
                          try with_reducible rfl
                        (try simp only [Act.put, List.getElem_toArray, List.getElem_cons_succ, List.getElem_cons_zero]); (try simp only [List.setIfInBounds_toArray]); (repeat (first | simp only [List.set_cons_succ] | simp only [List.set_cons_zero]))
                        refine wpAnyH_ready (rs := [26]) (by kernel_rfl) (by simp) ?_
                        refine (AllReadyH.cons rfl (fun KK hKK => ?_) AllReadyH.nil)
                        go_simp
                        go_at_call 9
                        refine (HSU.out _ HY2.out).mono ?_
                        rintro e y3 ⟨rfl, nq, rfl⟩
                        (try go_wp2_with fail)
                        refine hKK.out _ _ ?_ (fun hHeld => ?_)
                        · exact HSS2.out nq
                        clear hKK KK
                        (try simp only [Act.put, List.getElem_toArray, List.getElem_cons_succ, List.getElem_cons_zero]); (try simp only [List.setIfInBounds_toArray]); (repeat (first | simp only [List.set_cons_succ] | simp only [List.set_cons_zero]))
                        refine wpAnyH_take (i := 27) (v := ?_) rfl (by kernel_rfl) (by kernel_rfl) (by kernel_rfl) (fun _ _ _ h => h) (Or.inl ⟨by first | rfl | kernel_rfl, ?_⟩) hHeld ?_
                        rotate_left
                        · intro w hSw
                          (try dsimp only at hSw)
                          go_simp
                          try with_reducible rfl
                        (try simp only [Act.put, List.getElem_toArray, List.getElem_cons_succ, List.getElem_cons_zero]); (try simp only [List.setIfInBounds_toArray]); (repeat (first | simp only [List.set_cons_succ] | simp only [List.set_cons_zero]))
                        refine wpAnyH_done (by kernel_rfl) ?_ _
                        go_simp
                        (try go_wp2_with fail)
                        go_meet
                        exact ⟨by first | rfl | simp, HY2.out.trans (drewN_chgY _ _) (fun _ _ x => x) (fun _ _ x => x)⟩
                      case rest =>
                        obtain ⟨rfl, HCW⟩ := hcut
                        obtain ⟨wn, hwn⟩ : ∃ q, q = wc := ⟨_, rfl⟩
                        subst hwn
                        go_wp2_with fail
                        go_roundw
                        case rel => exact ⟨k + 1, by omega, by first | rfl | go_num, HC2.out.trans HCW.out (fun _ _ x => x) (fun _ _ x => x)⟩
                        case measure => simp [intOf]; omega
                    · have t2 : ¬ (k : Int) < (I.length : Int) := by omega
                      go_wp2_with fail
                      go_roundw
                      case rel => exact ⟨i + 1, by omega, by first | rfl | go_num, HC2⟩
                      case measure => simp [intOf]; omega
                · have t1 : ¬ (i : Int) < (ol.length : Int) := by omega
                  go_wp2_with fail
                  go_ret
                  exact ⟨by simp, HCV.out.trans ((HQ4.out.chg).trans HC.out (H := fun _ => False) (fun _ _ x => x) (fun _ _ x => x)) (fun _ _ x => x) (fun _ _ x => x)⟩
end Go.Proofs.Ytnhiodmigmmfgaa
