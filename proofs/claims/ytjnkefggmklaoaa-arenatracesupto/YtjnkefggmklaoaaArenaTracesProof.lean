/- Whatever the number of cells and the script: the cells are what the trace says, access by access, and records lie one behind the other (shutterlaw03.ArenaTraces is true for every input of bulk at most 1048576: a trace of accesses takes more bytes than the script). -/
import Derived.Test.YtjnkefggmklaoaaRows
import Derived.WalkKit
import Derived.ProofKit
import Derived.OpenShut
import Derived.JoinedCond
import Derived.Carry
import Derived.Lib.SmallJoins
import Derived.Test.YtjnkefggmklaoaaATr7
import Derived.Test.YtjnkefggmklaoaaScript
namespace Go.Proofs.Ytjnkefggmklaoaa.arenaTraces
open Go.ChangeShapes Go.WideShapes Go.ChangeAt Go.RowKit Go.Joins
set_option linter.unusedVariables false

theorem own : ownKnob Try.prog.godebug = none := by kernel_rfl
theorem laidOut : laidOutB Try.prog = true := by kernel_rfl

set_option maxRecDepth 100000 in
set_option maxHeartbeats 16000000 in
theorem walk (z : Int) (p : Option Addr) (c : Nat) (ops : List OpR) (w : World) (hS : Script w p ops) (hn : ops.length ≤ 1048576) (hv : ∀ o ∈ ops, o.vals.length ≤ 1048576) :
    Calls Try.prog 3 #[.int .i64 z, .slice p ops.length c] w fun e w' => e = .returned (.bool true) ∧ Below w.heap.size w w' := by
  have HS := keepH hS
  have HVL := keepH hv
  clear hS hv
  by_cases hz : 128 ≤ z ∧ z ≤ 4194304
  · obtain ⟨n, rfl⟩ : ∃ n : Nat, z = (n : Int) := ⟨z.toNat, by omega⟩
    have hn2 : 128 ≤ n ∧ n ≤ 4194304 := by omega
    clear hz
    go_enter Try.func3, Try.ntmps3
    go_wp2_with fail
    refine (m_new n w hn2).mono ?_
    rintro e W1 ⟨rfl, M1, B1, C1, S1⟩
    have HT0 : Hid (TR w W1 (w.heap.size + 1) w.heap.size n (fun k => k = w.heap.size) [] 1 [] (fun _ => ([], 1))) := ⟨B1, M1, by omega, fun k e => by omega, Plays.start n, C1⟩
    clear B1 M1 C1 S1
    go_wp2_with fail
    go_loopw [38] (fun s wr => ∃ (k : Nat) (F : Nat → Prop) (cs : List Nat) (next : Nat) (l : List Acc) (st : Nat → List Nat × Nat), k ≤ ops.length ∧ s = .int .i64 (k : Int) ∧ Hid (l.length = k ∧ TR w wr (w.heap.size + 1) w.heap.size n F cs next l st)) (fun s _ => ops.length - (intOf s).toNat)
    case atStart => exact ⟨0, _, _, _, _, _, by omega, rfl, keepH ⟨rfl, HT0.out⟩⟩
    case round =>
      clear HT0
      obtain ⟨k, F, cs, next, l, st, hk, rfl, HK⟩ := hrel
      by_cases hlt : k < ops.length
      · have t1 : (k : Int) < (ops.length : Int) := by omega
        obtain ⟨o, ho⟩ : ∃ o, ops[k]? = some o := ⟨ops[k], List.getElem?_eq_getElem hlt⟩
        have HOV := keepH (HVL.out o (List.mem_of_getElem? ho))
        obtain ⟨bk, off, rfl, hbk, hcell, hok⟩ := HS.out.get k o ho
        have hc : ∀ j u, o.cells[j]? = some u → wr.cell? ⟨bk, off + k * 7 + j, none⟩ = some u := fun j u hj => cell_chg HK.out.2.chg (hcell j u hj) (fun h => h)
        have c0 : wr.cell? ⟨bk, off + k * 7, none⟩ = some (.int .i64 o.k) := hc 0 _ rfl
        have c1 : wr.cell? ⟨bk, off + k * 7 + 1, none⟩ = some (.int .i64 o.wh) := hc 1 _ rfl
        have c2 : wr.cell? ⟨bk, off + k * 7 + 2, none⟩ = some (.int .i64 o.th) := hc 2 _ rfl
        have c3 : wr.cell? ⟨bk, off + k * 7 + 3, none⟩ = some (.int .u64 (o.ad : Int)) := hc 3 _ rfl
        have c4 : wr.cell? ⟨bk, off + k * 7 + 4, none⟩ = some (.int .u64 (o.a : Int)) := hc 4 _ rfl
        have c5 : wr.cell? ⟨bk, off + k * 7 + 5, none⟩ = some (.int .u64 (o.b : Int)) := hc 5 _ rfl
        have c6 : wr.cell? ⟨bk, off + k * 7 + 6, none⟩ = some (.slice o.p o.vals.length o.c) := hc 6 _ rfl
        have HOK := keepH hok
        have HL := keepH HK.out.1
        clear hc hok hcell ho hbk
        go_wp2_with fail
        refine (m_view (w.heap.size + 1) w.heap.size o.th _ (HK.out.2.mem.chg ((Chg.refl (fun _ => False) wr).alloc _) (fun h => h))).mono ?_
        rintro e w' ⟨rfl, rfl⟩
        obtain ⟨w2, hw2⟩ : ∃ w2, w2 = (wr.alloc (.cells #[.int .i64 o.k, .int .i64 o.wh, .int .i64 o.th, .int .u64 (o.ad : Int), .int .u64 (o.a : Int), .int .u64 (o.b : Int), .slice o.p o.vals.length o.c] 31)).alloc (.cells #[.iface 110 (.pointer (some ⟨w.heap.size, 0, none⟩)), .int .i64 o.th, .int .i64 0] 113) := ⟨_, rfl⟩
        have hbx : w2.heap[wr.heap.size]? = some (.cells #[.int .i64 o.k, .int .i64 o.wh, .int .i64 o.th, .int .u64 (o.ad : Int), .int .u64 (o.a : Int), .int .u64 (o.b : Int), .slice o.p o.vals.length o.c] 31) := by rw [hw2]; exact alloc_of (heap_alloc_new _ _) _
        have HV2 : Hid (IsView w2 (wr.heap.size + 1) w.heap.size o.th 0) := by rw [hw2]; have e := heap_alloc_new (wr.alloc (.cells #[.int .i64 o.k, .int .i64 o.wh, .int .i64 o.th, .int .u64 (o.ad : Int), .int .u64 (o.a : Int), .int .u64 (o.b : Int), .slice o.p o.vals.length o.c] 31)) (.cells #[.iface 110 (.pointer (some ⟨w.heap.size, 0, none⟩)), .int .i64 o.th, .int .i64 0] 113); rw [World.size_alloc] at e; exact e
        have HT2 : Hid (TR w w2 (w.heap.size + 1) w.heap.size n F cs next l st) := by rw [hw2]; exact HK.out.2.quiet (((Chg.refl _ _).alloc _).alloc _)
        have HNF : Hid (¬ F (wr.heap.size + 1)) := HK.out.2.out _ (by omega)
        have HVW : Hid (w.heap.size ≤ wr.heap.size + 1) := by have := HK.out.2.chg.size; show _ ≤ _; omega
        have HVM : Hid (wr.heap.size + 1 ≠ w.heap.size + 1) := by have := HK.out.2.mem.lt; show _ ≠ _; omega
        have HNX : Hid (1 ≤ next ∧ next ≤ n) := HK.out.2.next (by omega)
        simp only [World.size_alloc]
        rw [← hw2]
        have q0 := (cell_of hbx 0).trans rfl
        have q1 := (cell_of hbx 1).trans rfl
        have q2 := (cell_of hbx 2).trans rfl
        have q3 := (cell_of hbx 3).trans rfl
        have q4 := (cell_of hbx 4).trans rfl
        have q5 := (cell_of hbx 5).trans rfl
        have q6 := (cell_of hbx 6).trans rfl
        obtain ⟨vv, hvv⟩ : ∃ vv, vv = wr.heap.size + 1 := ⟨_, rfl⟩
        obtain ⟨bx, hbxx⟩ : ∃ bx, bx = wr.heap.size := ⟨_, rfl⟩
        rw [← hvv] at HV2 HNF HVW HVM ⊢
        rw [← hbxx] at q0 q1 q2 q3 q4 q5 q6 ⊢
        clear hw2 hbx hvv hbxx c0 c1 c2 c3 c4 c5 c6
        go_wp2_with fail
        refine (s_which5 o.k _).mono ?_
        rintro e w2 ⟨kk, hkk, rfl, rfl⟩
        have hll : l.length < 1099511627776 := by have := HL.out; omega
        rcases (show kk = 0 ∨ kk = 1 ∨ kk = 2 ∨ kk = 3 ∨ kk = 4 by omega) with rfl | rfl | rfl | rfl | rfl
        · skip
          go_wp2_with fail
          refine (v_load vv w.heap.size n next 0 o.th o.ad F cs l _ HV2.out HT2.out.bank HNF.out (by omega) hll HOK.out.ad).mono ?_
          rintro e w3 ⟨rfl, F3, vs3, B3, V3, G3⟩
          have HT3 := keepH (HT2.out.step HVW.out HVM.out B3 G3 (.inl ⟨rfl, rfl, rfl, rfl⟩) ⟨by simp, HOK.out.ad⟩)
          clear B3 V3 G3
          go_wp2_with fail
          go_roundw
          case rel => exact ⟨k + 1, F3, _, _, _, _, by omega, by first | rfl | go_num, keepH ⟨by rw [List.length_append, HL.out]; rfl, HT3.out⟩⟩
          case measure => simp [intOf]; omega
        · skip
          go_wp2_with fail
          refine (v_store vv w.heap.size n next 0 o.th o.ad o.a F cs l _ HV2.out HT2.out.bank HNF.out (by omega) hll HOK.out.ad HOK.out.a).mono ?_
          rintro e w3 ⟨rfl, F3, vs3, B3, V3, G3⟩
          have HT3 := keepH (HT2.out.step HVW.out HVM.out B3 G3 (.inr (.inl ⟨rfl, rfl, rfl⟩)) ⟨by simp, HOK.out.ad⟩)
          clear B3 V3 G3
          go_wp2_with fail
          go_roundw
          case rel => exact ⟨k + 1, F3, _, _, _, _, by omega, by first | rfl | go_num, keepH ⟨by rw [List.length_append, HL.out]; rfl, HT3.out⟩⟩
          case measure => simp [intOf]; omega
        · skip
          go_wp2_with fail
          refine (v_cas vv w.heap.size n next 0 o.th o.ad o.a o.b F cs l _ HV2.out HT2.out.bank HNF.out (by omega) hll HOK.out.ad HOK.out.b).mono ?_
          rintro e w3 ⟨rfl, F3, vs3, B3, V3, G3⟩
          have HT3 := keepH (HT2.out.step HVW.out HVM.out B3 G3 (.inr (.inr (.inl ⟨rfl, rfl, rfl, rfl⟩))) ⟨by simp, HOK.out.ad⟩)
          clear B3 V3 G3
          go_wp2_with fail
          go_roundw
          case rel => exact ⟨k + 1, F3, _, _, _, _, by omega, by first | rfl | go_num, keepH ⟨by rw [List.length_append, HL.out]; rfl, HT3.out⟩⟩
          case measure => simp [intOf]; omega
        · skip
          go_wp2_with fail
          refine (v_add vv w.heap.size n next 0 o.th o.ad o.a F cs l _ HV2.out HT2.out.bank HNF.out (by omega) hll HOK.out.ad).mono ?_
          rintro e w3 ⟨rfl, F3, vs3, B3, V3, G3⟩
          have HT3 := keepH (HT2.out.step HVW.out HVM.out B3 G3 (.inr (.inr (.inr (.inl ⟨rfl, rfl, rfl, rfl⟩)))) ⟨by simp, HOK.out.ad⟩)
          clear B3 V3 G3
          go_wp2_with fail
          go_roundw
          case rel => exact ⟨k + 1, F3, _, _, _, _, by omega, by first | rfl | go_num, keepH ⟨by rw [List.length_append, HL.out]; rfl, HT3.out⟩⟩
          case measure => simp [intOf]; omega
        · skip
          have HRD := keepH (HOK.out.reads.chg HT2.out.chg (fun _ _ _ x => x))
          have HAP : Hid (∀ ad, o.p = some ad → o.vals ≠ [] → ¬ F ad.block) := fun ad e hne hF => by have := HOK.out.block ad e hne; have := HT2.out.inF _ hF; omega
          have HPV : Hid (∀ ad, o.p = some ad → o.vals ≠ [] → ad.block ≠ vv) := fun ad e hne => by have := HOK.out.block ad e hne; have := HVW.out; have := HVM.out; omega
          go_wp2_with fail
          refine (v_alloc vv w.heap.size n next 0 o.th o.p o.c o.vals F cs l _ HV2.out HT2.out.bank HNF.out (by omega) hll HRD.out HAP.out HPV.out HOK.out.small (by have := HOV.out; omega)).mono ?_
          rintro e w3 ⟨rfl, F3, vs3, B3, V3, G3⟩
          have HT3 := keepH (HT2.out.step HVW.out HVM.out B3 G3 (.inr (.inr (.inr (.inr ⟨rfl, rfl, rfl, rfl⟩)))) ⟨HOV.out, alAt_small _ _ _ HNX.out.2 hn2.2⟩)
          clear B3 V3 G3
          go_wp2_with fail
          go_roundw
          case rel => exact ⟨k + 1, F3, _, _, _, _, by omega, by first | rfl | go_num, keepH ⟨by rw [List.length_append, HL.out]; rfl, HT3.out⟩⟩
          case measure => simp [intOf]; omega
      · obtain rfl : k = ops.length := by omega
        have t1 : ¬ (ops.length : Int) < (ops.length : Int) := by omega
        have HL : Hid (l.length = ops.length) := HK.out.1
        have hlb : l.length ≤ 1048576 := by have := HL.out; omega
        have HTR : Hid (TR w wr (w.heap.size + 1) w.heap.size n F cs next l st) := HK.out.2
        have HNX : Hid (1 ≤ next ∧ next ≤ n) := HTR.out.next (by omega)
        clear HK
        go_wp2_with fail
        refine (m_trace _ _ n next F cs l _ HTR.out.mem HTR.out.bank (by have := HL.out; omega) (fun x hx => by have := (HTR.out.plays.small x hx).1; omega)).mono ?_
        rintro e W2 ⟨pt, ct, lk, rfl, T2⟩
        have HT2 := keepH T2
        have HTR2 := keepH (HTR.out.quiet T2.chg)
        clear T2 t1
        obtain ⟨w3, hmk, hO3, hC3⟩ := make_u64s n hn2.2 W2
        have HO3 := keepH hO3
        have HC3 := keepH hC3
        have HG2 : Hid (W2.heap.size < w3.heap.size) := lt_of hO3
        obtain ⟨gg, hgg⟩ : ∃ gg, gg = W2.heap.size := ⟨_, rfl⟩
        rw [← hgg] at hmk HO3
        have HGG : Hid (gg = W2.heap.size) := hgg
        clear hO3 hC3 hgg
        go_wp2_with fail
        clear hmk
        go_loopw [12, 13] (fun s12 s13 wx => ∃ (i : Nat) (os : List Nat), i ≤ l.length ∧ s12 = .int .i64 (((st i).2 : Nat) : Int) ∧ s13 = .int .i64 (i : Int) ∧ Hid (IsOwn wx gg os ∧ Own os (st i).1 n ∧ Chg (fun k => k = gg) w3 wx)) (fun _ s13 _ => l.length - (intOf s13).toNat)
        case atStart => exact ⟨0, _, by omega, by rw [HTR.out.plays.zero]; rfl, rfl, keepH ⟨HO3.out, by rw [HTR.out.plays.zero]; exact own_zero n, Chg.refl _ _⟩⟩
        case round =>
          obtain ⟨wx, hwx⟩ : ∃ wx, wx = wr := ⟨_, rfl⟩
          rw [← hwx] at hrel ⊢
          clear hwx
          obtain ⟨i, os, hi, rfl, rfl, HI⟩ := hrel
          by_cases hil : i < l.length
          · have t2 : (i : Int) < (l.length : Int) := by omega
            obtain ⟨x, hx⟩ : ∃ x, l[i]? = some x := ⟨l[i], List.getElem?_eq_getElem hil⟩
            obtain ⟨vs, hlk⟩ := HT2.out.same i x hx
            obtain ⟨y, hy⟩ : ∃ y, y = { x with vs := vs } := ⟨_, rfl⟩
            rw [← hy] at hlk
            have HPL : Hid (Ply n (st i).1 (st i).2 y (st (i + 1)).1 (st (i + 1)).2) := by rw [hy]; exact HTR.out.plays.step i x hx
            have HSM : Hid (y.vals.length ≤ 1048576 ∧ y.addr < 18446744073709551616) := by rw [hy]; exact HTR.out.plays.small x (List.mem_of_getElem? hx)
            have HNI := keepH (HTR.out.plays.nexts (by omega) i (by omega))
            have HCL : Hid (∀ j, cellN (st i).1 j < 18446744073709551616) := fun j => HTR.out.plays.lt i j (by omega)
            obtain ⟨gt, cg, hgt⟩ := slice_pos HT2.out.row (by omega)
            simp only [Value.slice.injEq, true_and] at hgt
            obtain ⟨rfl, rfl⟩ := hgt
            have hgtl : gt < W2.heap.size := row_lt HT2.out.row gt rfl
            have HKP : Hid (∀ b, b < W2.heap.size → wx.heap[b]? = W2.heap[b]?) := fun b hb => (HI.out.2.2.block b (by have := HG2.out; omega) (by have := HGG.out; omega)).trans (HC3.out.block b hb (fun h => h))
            have HROW : Hid (wx.ownsRow 0 46 8 (.slice (some ⟨gt, 0, none⟩) l.length ct) l.length (accRow lk)) := row_kept HT2.out.row fun b hb => HKP.out b (row_lt HT2.out.row b hb)
            have HYV : Hid (wx.ownsRow 0 28 1 y.vs y.vals.length (y.vals.map u64V)) := row_kept (HT2.out.vals i y hil hlk) fun b hb => HKP.out b (row_lt (HT2.out.vals i y hil hlk) b hb)
            have HYG : Hid (y.vs.ownBlock ≠ some gg) := fun e => by have := row_lt (HT2.out.vals i y hil hlk) gg e; have := HGG.out; omega
            have a0 : wx.cell? ⟨gt, i * 8, none⟩ = some (.int .i64 y.th) := acc_cell HROW.out i 0 y hlk hil (by decide) _ rfl
            have a1 : wx.cell? ⟨gt, i * 8 + 1, none⟩ = some (.int .u8 (y.kind : Int)) := acc_cell HROW.out i 1 y hlk hil (by decide) _ rfl
            have a2 : wx.cell? ⟨gt, i * 8 + 2, none⟩ = some (.int .u64 (y.addr : Int)) := acc_cell HROW.out i 2 y hlk hil (by decide) _ rfl
            have a3 : wx.cell? ⟨gt, i * 8 + 3, none⟩ = some (.int .u64 (y.a : Int)) := acc_cell HROW.out i 3 y hlk hil (by decide) _ rfl
            have a4 : wx.cell? ⟨gt, i * 8 + 4, none⟩ = some (.int .u64 (y.b : Int)) := acc_cell HROW.out i 4 y hlk hil (by decide) _ rfl
            have a5 : wx.cell? ⟨gt, i * 8 + 5, none⟩ = some (y.vs) := acc_cell HROW.out i 5 y hlk hil (by decide) _ rfl
            have a6 : wx.cell? ⟨gt, i * 8 + 6, none⟩ = some (.int .u64 (y.got : Int)) := acc_cell HROW.out i 6 y hlk hil (by decide) _ rfl
            have a7 : wx.cell? ⟨gt, i * 8 + 7, none⟩ = some (.bool y.ok) := acc_cell HROW.out i 7 y hlk hil (by decide) _ rfl
            clear hx hlk hy hgtl
            go_wp2_with fail
            refine (l_done gg n (st i).2 (st (i + 1)).2 os (st i).1 (st (i + 1)).1 y _ HI.out.1 HI.out.2.1 hn2 HNI.out HPL.out HSM.out.2 HCL.out HYV.out HYG.out HSM.out.1).mono ?_
            rintro e w4 ⟨rfl, os2, O4, W4, C4⟩
            have HI4 := keepH (And.intro O4 (And.intro W4 (HI.out.2.2.trans C4 (H := fun k => k = gg) (fun _ _ x => x) (fun _ _ x => x))))
            clear O4 W4 C4 a0 a1 a2 a3 a4 a5 a6 a7
            go_wp2_with fail
            go_roundw
            case rel => exact ⟨i + 1, os2, by omega, rfl, by first | rfl | go_num, HI4⟩
            case measure => simp [intOf]; omega
          · obtain rfl : i = l.length := by omega
            have t2 : ¬ (l.length : Int) < (l.length : Int) := by omega
            have hlast := HTR.out.plays.last
            have HOW : Hid (Own os cs n) := by have e := HI.out.2.1; rw [hlast] at e; exact e
            have HIO : Hid (IsOwn wx gg os) := HI.out.1
            have e2 : (st l.length).2 = next := by rw [hlast]
            rw [e2]
            have HCX : Hid (Chg (fun k => k = gg) W2 wx) := HC3.out.trans HI.out.2.2 (fun _ _ x => x.elim) (fun _ _ x => x)
            have HTX : Hid (TR w wx (w.heap.size + 1) w.heap.size n F cs next l st) := by
              have h0 := HTR2.out
              refine ⟨h0.bank.chg HCX.out (fun k hF e => ?_), h0.mem.chg HCX.out (fun e => ?_), h0.nm, h0.inF, h0.plays, h0.chg.trans HCX.out (fun _ _ x => x) (fun i hi e => ?_)⟩
              · exact h0.out k (by have := HGG.out; omega) hF
              · have := h0.mem.lt; have := HGG.out; omega
              · have := h0.chg.size; have := HGG.out; omega
            clear hlast e2
            go_wp2_with fail
            go_loopw [15] (fun s15 wy => ∃ i : Nat, i ≤ n ∧ s15 = .int .i64 (i : Int) ∧ Hid (IsOwn wy gg os ∧ TR w wy (w.heap.size + 1) w.heap.size n F cs next l st)) (fun s15 _ => n - (intOf s15).toNat)
            case atStart => exact ⟨0, by omega, rfl, keepH ⟨HIO.out, HTX.out⟩⟩
            case round =>
              obtain ⟨wy, hwy⟩ : ∃ wy, wy = wr := ⟨_, rfl⟩
              rw [← hwy] at hrel ⊢
              clear hwy
              obtain ⟨i, hi2, rfl, HY⟩ := hrel
              by_cases hin : i < n
              · have t3 : (i : Int) < (n : Int) := by omega
                have wi : IntKind.u64.wrap (i : Int) = (i : Int) := by rw [IntKind.wrap_u64]; omega
                obtain ⟨cv, hcv⟩ : ∃ cv, cv = cellN cs i := ⟨_, rfl⟩
                have HPK : Hid (∀ q, Calls Try.prog 18 #[.pointer (some ⟨w.heap.size + 1, 0, none⟩), .int .u64 (i : Int)] (wy.drewN q) fun x W' => x = .returned (.int .u64 (cv : Int)) ∧ W' = wy.drewN q) := fun q => by rw [hcv]; exact m_peek _ _ n next i F cs l _ (HY.out.2.mem.chg (Goes.drewN wy (fun _ => False) q).chg (fun h => h)) (HY.out.2.bank.chg (Goes.drewN wy (fun _ => False) q).chg (fun _ _ h => h)) (by omega)
                have o0 : wy.cell? ⟨gg, i, none⟩ = some (.int .u64 (cv : Int)) := by rw [HY.out.1.cell i (by rw [HOW.out.1]; exact hin), HOW.out.2.1 i hin, hcv]
                clear hcv
                go_wp2_with fail
                go_quiet (first | (go_at_call 18; refine (HPK.out _).mono ?_; rintro x y ⟨rfl, rfl⟩; exact ⟨rfl, _, rfl⟩))
                go_wp2_with fail
                go_roundw
                case rel => exact ⟨i + 1, by omega, by first | rfl | go_num, keepH ⟨HY.out.1, HY.out.2.quiet (Goes.drewN wy (fun _ => False) _).chg⟩⟩
                case measure => simp [intOf]; omega
              · obtain rfl : i = n := by omega
                have t3 : ¬ (i : Int) < (i : Int) := by omega
                go_wp2_with fail
                refine (a_live _).mono ?_
                rintro e W5 ⟨rfl, C5⟩
                have HY5 := keepH (HY.out.2.quiet C5)
                have hlo := HL.out
                have hle : (l.length : Int) = (ops.length : Int) := by rw [hlo]
                have hnx := HNX.out
                have wl : IntKind.i64.wrap ((i : Int) - (next : Int)) = ((i - next : Nat) : Int) := by rw [IntKind.wrap_i64]; omega
                clear C5 hlo hnx
                go_wp2_with fail
                refine (m_left _ _ i next F cs l _ HY5.out.mem HY5.out.bank).mono ?_
                rintro e w6 ⟨rfl, q6, rfl⟩
                have HC6 := keepH ((HY5.out.quiet (Goes.drewN W5 (fun _ => False) q6).chg).chg)
                go_wp2_with fail
                go_ret
                exact ⟨by simp, (HC6.out.mono (G := fun k => w.heap.size ≤ k) (fun _ _ x => x.elim)).below (Nat.le_refl _)⟩
  · have hz2 : z < 128 ∨ 4194304 < z := by omega
    go_enter Try.func3, Try.ntmps3
    go_wp2_with fail
    refine (m_new_out z w hz2).mono ?_
    rintro e w' ⟨kk, hkk, rfl, rfl⟩
    have n1 : (kk != 0) = true := bne_iff_ne.2 hkk
    have n2 : (kk == 0) = false := beq_eq_false_iff_ne.2 hkk
    go_wp2_with fail
    refine (a_live _).mono ?_
    rintro e W5 ⟨rfl, C5⟩
    have HC5 := keepH C5
    clear C5
    by_cases h1 : z < 128
    · skip
      go_wp2_with fail
      go_ret
      exact ⟨by simp, (HC5.out.mono (G := fun k => _ ≤ k) (fun _ _ x => x.elim)).below (Nat.le_refl _)⟩
    · have h2 : 4194304 < z := by omega
      go_wp2_with fail
      go_ret
      exact ⟨by simp, (HC5.out.mono (G := fun k => _ ≤ k) (fun _ _ x => x.elim)).below (Nat.le_refl _)⟩

set_option maxRecDepth 100000 in
theorem lifted (os : Os) (started : os.Started) (H : Type) (enc : TypeId × Value → H) (F : Stop.Interp) :
    ReturnsInHanded {} Try.checked os 3 .any ((Rows.OpenSpec.upto Rows.arenaTracesSpec).pre6 enc Try.prog Try.f3 Rows.arenaTracesUptoRow.domain false) (((Rows.OpenSpec.upto Rows.arenaTracesSpec).at F).post enc Try.prog Try.f3 false true false false) := by
  refine returnsInHanded_of_cond (C := Try.checked) (s := Rows.OpenSpec.upto Rows.arenaTracesSpec) (k := Rows.uptoSmall) rfl own started (by kernel_rfl) Try.func3
    (OpenSpec.witness (enc := enc) (C := Try.checked) (s := Rows.OpenSpec.upto Rows.arenaTracesSpec) (k := Rows.uptoSmall) rfl false ⟨#[], #[.int .i64 0, .slice none 0 0], []⟩ 8 (by kernel_rfl) (by kernel_rfl) (by kernel_rfl)
      (x := ([.lit (.int .i64 0), .nil], [], [])) (by kernel_rfl) rfl (by kernel_rfl)) ?_
  intro W base args ds gs before hval0 hW _ hk _
  have hval : ∀ (j : Nat) t v, Try.f3.params[j]? = some t → args[j]? = some v → Value.okWide Try.prog W .any base t v := hval0
  have hW' := hW
  obtain ⟨p, q, hA0, hV, rfl, hfz, hnd⟩ := hW
  have hA : DataW.TrodAll enc Try.prog W 0 (fun _ => true) true Try.f3.params.toList args.toList ds p := hA0
  rw [Try.params3] at hA hval
  obtain ⟨v0, vs0, d0, ds0, p0, q0, hargs, rfl, rfl, h0, r0⟩ := trodAll_cons hA
  obtain ⟨v1, vs1, d1, ds1, p1, q1, rfl, rfl, rfl, h1, r1⟩ := trodAll_cons r0
  obtain ⟨rfl, rfl, rfl⟩ := trodAll_nil r1
  obtain rfl : args = #[v0, v1] := by cases args; simp_all
  obtain ⟨rfl, rfl⟩ := trodVars_none hV
  have k0 := h0
  have lt0 : ∀ x ∈ p0, x.block < W.heap.size := by obtain ⟨m, hm⟩ := k0; exact DataW.trod_lt m _ _ _ hm
  have k1 := h1
  have lt1 : ∀ x ∈ p1, x.block < W.heap.size := by obtain ⟨m, hm⟩ := k1; exact DataW.trod_lt m _ _ _ hm
  obtain ⟨z, rfl, rfl, rfl, w0⟩ := open_int Try.underlying3 (hval 0 3 v0 rfl rfl) h0
  obtain ⟨p', n, c, rfl⟩ := okWide_slice Try.underlying22 (hval 1 22 v1 rfl rfl)
  obtain ⟨ops, hlen, hS, hbk, hvals⟩ := script_open h1
  simp only [List.append_nil] at hW' hk
  have hb : Rows.uptoBulkAll [DataW.lit (Lit.int IntKind.i64 z), d1] ≤ 1048576 := of_decide_eq_true hk
  have hn : ops.length ≤ 1048576 := by simp only [Rows.uptoBulkAll] at hb; omega
  have hv : ∀ o ∈ ops, o.vals.length ≤ 1048576 := fun o ho => by have := hvals o ho; simp only [Rows.uptoBulkAll] at hb; omega
  subst hlen
  clear hA0 hval0
  refine (walk z p' c ops W hS hn hv).mono fun e W' ⟨he, bel⟩ => ?_
  subst he
  exact ⟨_, rfl, _, _, _, [], _, [], hW', trodAll_mk1 (shut_bool Try.underlying4 _), (trodAll_cons_mk (Below.trod laidOut (by kernel_rfl) (of_decide_eq_true (by kernel_rfl)) k0 bel lt0) (trodAll_cons_mk (Below.trod laidOut (by kernel_rfl) (of_decide_eq_true (by kernel_rfl)) k1 bel lt1) trodAll_mk0)), rfl, bel.frame _, fun h => by cases h⟩

theorem over : Rows.arenaTracesUptoRow.holds Try.pinned (Rows.OpenSpec.upto Rows.arenaTracesSpec) :=
  OpenClaim.holds_of_cond 3 Try.f3 rfl rfl rfl rfl rfl rfl rfl ⟨rfl, rfl, rfl, rfl, rfl⟩ rfl rfl rfl rfl rfl (by kernel_rfl) Try.func3 (by kernel_rfl)
    (of_decide_eq_true (by kernel_rfl)) (by unfold Func.isWrapper; first | (rw [if_pos (by decide +kernel)]; kernel_rfl) | (rw [if_neg (by decide +kernel)]; exact ⟨rfl, rfl⟩))
    (fun os started H enc _ F => lifted os started H enc F)
end Go.Proofs.Ytjnkefggmklaoaa.arenaTraces
namespace Go.Proofs.Ytjnkefggmklaoaa
theorem arenaTraces_holds : Rows.ArenaTracesUptoSaid := arenaTraces.over
end Go.Proofs.Ytjnkefggmklaoaa
