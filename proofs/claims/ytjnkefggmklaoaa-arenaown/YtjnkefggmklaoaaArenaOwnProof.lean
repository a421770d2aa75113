/- Whatever the list: what Alloc was lent and what Trace tells shares no memory with the bank, nor one list of a trace with another (shutterlaw03.ArenaOwn is true for every input). -/
import Derived.Test.YtjnkefggmklaoaaRows
import Derived.WalkKit
import Derived.ProofKit
import Derived.OpenShut
import Derived.JoinedCond
import Derived.Carry
import Derived.Lib.SmallJoins
import Derived.Test.YtjnkefggmklaoaaAOwnA
import Derived.Test.YtjnkefggmklaoaaAOwnB
namespace Go.Proofs.Ytjnkefggmklaoaa.arenaOwn
open Go.ChangeShapes Go.WideShapes Go.ChangeAt Go.RowKit Go.Joins
set_option linter.unusedVariables false

theorem own : ownKnob Try.prog.godebug = none := by kernel_rfl
theorem laidOut : laidOutB Try.prog = true := by kernel_rfl

set_option maxRecDepth 100000 in
set_option maxHeartbeats 16000000 in
theorem walk (p : Option Addr) (c n : Nat) (vals : List Nat) (w : World) (hlen : vals.length = n) (hU : UReads w p vals) (hv : ∀ x ∈ vals, x < 18446744073709551616) (bl : n ≤ 17592186043904) :
    Calls Try.prog 4 #[.slice p n c] w fun e w' => e = .returned (.bool true) ∧ Below w.heap.size w w' := by
  have HU0 := keepH hU
  have HV := keepH hv
  have HLE := keepH hlen
  clear hU hv hlen
  go_enter Try.func4, Try.ntmps4
  go_wp2_with fail
  refine (m_new 4096 w (by omega)).mono ?_
  rintro e W1 ⟨rfl, M1, B1, C1, S1⟩
  have HM1 := keepH M1
  have HB1 := keepH B1
  have HC1 := keepH C1
  have HS1 := keepH S1
  clear M1 B1 C1 S1
  go_wp2_with fail
  refine (hand_u p c n vals W1 HLE.out (HU0.out.up HC1.out (fun _ x => x.elim)) bl).mono ?_
  rintro e W2 ⟨rfl, xs, hxs⟩
  have HX := keepH hxs
  obtain ⟨g, hg⟩ : ∃ g, g = W1.heap.size := ⟨_, rfl⟩
  rw [← hg] at HX ⊢
  have HGE : Hid (g = w.heap.size + 2) := by rw [hg]; exact HS1.out
  have HC2 : Hid (Chg (fun _ => False) W1 W2) := hxs.chg.mono (fun i hi x => by omega)
  clear hxs hg
  have HM2 := keepH (HM1.out.chg HC2.out (fun x => x))
  have HB2 := keepH (HB1.out.chg HC2.out (fun _ _ x => x))
  have HGL : Hid (g < W2.heap.size) := row_lt HX.out.row g rfl
  go_wp2_with fail
  refine (m_view (w.heap.size + 1) w.heap.size 0 _ HM2.out).mono ?_
  rintro e w' ⟨rfl, rfl⟩
  obtain ⟨W3, hW3⟩ : ∃ W3, W3 = W2.alloc (.cells #[.iface 110 (.pointer (some ⟨w.heap.size, 0, none⟩)), .int .i64 0, .int .i64 0] 113) := ⟨_, rfl⟩
  have HC3 : Hid (Chg (fun _ => False) W2 W3) := by rw [hW3]; exact (Chg.refl _ _).alloc _
  have HV3 : Hid (IsView W3 W2.heap.size w.heap.size 0 0) := by rw [hW3]; exact heap_alloc_new _ _
  rw [← hW3]
  obtain ⟨v, hvv⟩ : ∃ v, v = W2.heap.size := ⟨_, rfl⟩
  rw [← hvv] at HV3 ⊢
  have HGV : Hid (g < v) := by rw [hvv]; exact HGL.out
  clear hW3 hvv
  have HST : Hid (St w W3 (w.heap.size + 1) w.heap.size v (fun k => k = w.heap.size) 0 4096 1 0 [] []) := by
    have a1 := HGE.out
    have a2 := HGV.out
    exact ⟨HB2.out.chg HC3.out (fun _ _ x => x), HV3.out, HM2.out.chg HC3.out (fun x => x), by omega, by omega, by omega, fun k e => by omega, by omega, (HC1.out.trans HC2.out (H := fun _ => False) (fun _ _ x => x) (fun _ _ x => x)).trans HC3.out (fun _ _ x => x) (fun _ _ x => x)⟩
  have HO3 : Hid (OwnU w W3 g n (n + 9)) := by
    refine OwnU.chg (F := fun _ => False) ⟨⟨_, HX.out.row, fun j hj => ?_⟩, by have := HGE.out; omega⟩ HC3.out (fun x => x)
    obtain ⟨x, hx⟩ : ∃ x, vals[j]? = some x := ⟨vals[j]'(by rw [HLE.out]; exact hj), List.getElem?_eq_getElem _⟩
    exact ⟨(x : Int), HX.out.get j x hj hx⟩
  have HR3 : Hid (Reads W3 (some ⟨g, 0, none⟩) vals) := .inr ⟨⟨g, 0, none⟩, rfl, fun j u hj => by
    rw [add_plain, Nat.zero_add]
    rw [List.getElem?_map] at hj
    cases hx : vals[j]? with
    | none => rw [hx] at hj; simp at hj
    | some x =>
      rw [hx] at hj
      simp at hj
      subst hj
      have hjn : j < n := by rw [← HLE.out]; exact (List.getElem?_eq_some_iff.1 hx).1
      refine cell_chg HC3.out (v := u64V x) ?_ (fun x => x)
      rw [World.ownsRow.cellAt HX.out.row j (by omega)]
      exact HX.out.get j x hjn hx⟩
  clear HX HM1 HB1 HM2 HB2 HV3 HC1 HC2 HC3
  go_wp2_with fail
  have HAL := v_alloc v w.heap.size 4096 1 0 0 (some ⟨g, 0, none⟩) (n + 9) vals (fun k => k = w.heap.size) [] [] W3 HST.out.view HST.out.bank HST.out.nv (by omega) (by simp) HR3.out (fun ad e _ => by cases e; have := HGE.out; show ¬ g = _; omega) (fun ad e _ => by cases e; have := HGV.out; show g ≠ v; omega) HV.out (by rw [HLE.out]; exact bl)
  rw [HLE.out] at HAL
  refine HAL.mono ?_
  clear HAL
  rintro e W4 ⟨rfl, F, vs, B4, V4, G4⟩
  have HS4 := keepH (HST.out.step G4 B4 V4)
  have HNF : Hid (¬ F g) := G4.out (by have := row_lt HO3.out.row.choose_spec.1 g rfl; exact this) (by have := HGE.out; omega)
  have HO4 := keepH (HO3.out.chg G4.chg (by have := HGE.out; have := HGV.out; omega))
  obtain ⟨a, ha⟩ : ∃ a, a = alAt 4096 1 n := ⟨_, rfl⟩
  rw [← ha] at HS4 ⊢
  obtain ⟨acc, hacc⟩ : ∃ acc : Acc, acc = ⟨0, 5, a, 0, 0, vs, vals, 0, false⟩ := ⟨_, rfl⟩
  rw [← hacc, List.nil_append] at HS4
  have HACC := keepH hacc
  have HAA := keepH ha
  obtain ⟨nx, hnx⟩ : ∃ nx, nx = alNext 4096 1 n := ⟨_, rfl⟩
  rw [← hnx] at HS4
  obtain ⟨cs, hcs⟩ : ∃ cs, cs = alN 4096 1 [] vals := ⟨_, rfl⟩
  rw [← hcs] at HS4
  have HCS := keepH hcs
  have ha2 : a ≤ 1 := by rw [ha]; unfold alAt; split <;> omega
  clear B4 V4 G4 ha hacc hnx hcs HST HO3 HR3
  have HSO : Hid (St w W4 (w.heap.size + 1) w.heap.size v F 0 4096 nx 1 cs [acc] ∧ OwnU w W4 g n (n + 9)) := ⟨HS4.out, HO4.out⟩
  clear HS4 HO4
  go_wp2_with fail
  go_loopw [8] (fun s wr => ∃ k : Nat, k ≤ n ∧ s = .int .i64 (k : Int) ∧ Hid (St w wr (w.heap.size + 1) w.heap.size v F 0 4096 nx 1 cs [acc] ∧ OwnU w wr g n (n + 9))) (fun s _ => n - (intOf s).toNat)
  case atStart => exact ⟨0, by omega, rfl, HSO⟩
  case round =>
    clear HSO
    obtain ⟨k, hk, rfl, HK⟩ := hrel
    by_cases hlt : k < n
    · have t1 : (k : Int) < (n : Int) := by omega
      obtain ⟨z, c0, f0⟩ := HK.out.2.at (by omega) k hlt
      have HN : Hid (∀ y : Int, St w (wr.setCell ⟨g, k, none⟩ (.int .u64 y)) (w.heap.size + 1) w.heap.size v F 0 4096 nx 1 cs [acc] ∧ OwnU w (wr.setCell ⟨g, k, none⟩ (.int .u64 y)) g n (n + 9)) := fun y => ⟨HK.out.1.put g k _ HNF.out (by have := HGV.out; omega) (by have := HGE.out; omega) (by have := HGE.out; omega), HK.out.2.put k y⟩
      go_wp2_with fail
      go_roundw
      case rel => exact ⟨k + 1, by omega, by first | rfl | go_num, keepH (HN.out _)⟩
      case measure => simp [intOf]; omega
    · obtain rfl : k = n := by omega
      have t1 : ¬ (k : Int) < (k : Int) := by omega
      obtain ⟨Wb, hWb⟩ : ∃ Wb, Wb = wr := ⟨_, rfl⟩
      rw [← hWb] at HK ⊢
      clear hWb
      have HBK := keepH HK.out.1.bank
      have HMM := keepH HK.out.1.mem
      have HCW := keepH HK.out.1.chg
      have HFL : Hid (∀ i, F i → i < Wb.heap.size) := by obtain ⟨_, _, h0⟩ := HK.out.1.bank; exact h0.lt
      clear HK
      have HI : Hid (AO Wb.heap.size Wb (Wb.alloc (.cells (bookCells (.slice none 0 0)) 71)) Wb.heap.size 0 k) := ⟨⟨_, _, _, BKept.start Wb Wb.heap.size (Nat.le_refl _), fun j hj => by omega⟩, (Chg.refl _ _).alloc _⟩
      have HMEM : Hid (∀ X, Chg (fun b => Wb.heap.size ≤ b) Wb X → IsMem X (w.heap.size + 1) w.heap.size ∧ Bank X F w.heap.size 4096 nx cs [acc]) := fun X hX => ⟨HMM.out.chg hX (by have := HMM.out.lt; omega), HBK.out.chg hX (fun i hi x => by have := HFL.out i hi; omega)⟩
      go_wp2_with fail
      go_loopw [10] (fun s wr => ∃ i : Nat, i ≤ 2 ∧ s = .int .i64 (i : Int) ∧ Hid (AO Wb.heap.size Wb wr Wb.heap.size i k)) (fun s _ => 2 - (intOf s).toNat)
      case atStart => exact ⟨0, by omega, rfl, HI⟩
      case round =>
        clear HI
        obtain ⟨wi, hwi⟩ : ∃ wi, wi = wr := ⟨_, rfl⟩
        rw [← hwi] at hrel ⊢
        clear hwi
        obtain ⟨i, hi2, rfl, HK⟩ := hrel
        have HTR := m_trace (w.heap.size + 1) w.heap.size 4096 nx F cs [acc] wi (HMEM.out wi HK.out.chg).1 (HMEM.out wi HK.out.chg).2 (by simp) (fun x hx => by simp at hx; rw [hx, HACC.out]; show vals.length ≤ _; rw [HLE.out]; exact bl)
        simp only [List.length_cons, List.length_nil, Nat.zero_add] at HTR
        by_cases hlt2 : i < 2
        · have t2 : (i : Int) < 2 := by omega
          go_wp2_with fail
          refine HTR.mono ?_
          clear HTR
          rintro e W5 ⟨pt, ct, lk, rfl, T⟩
          obtain ⟨vs2, hvs⟩ := T.same 0 acc rfl
          have TV := T.vals 0 _ (by simp) hvs
          have TR := T.row
          simp only [List.length_cons, List.length_nil, Nat.zero_add] at TR
          have TF := fun b => T.fresh 0 _ b (by simp) hvs
          obtain ⟨gt, dt, hpt⟩ := slice_pos TR (by omega)
          simp only [Value.slice.injEq, true_and] at hpt
          obtain ⟨rfl, rfl⟩ := hpt
          have TV2 : W5.ownsRow 0 28 1 vs2 k (vals.map u64V) := by have e := TV; rw [HACC.out] at e; have e2 : W5.ownsRow 0 28 1 vs2 vals.length (vals.map u64V) := e; rw [HLE.out] at e2; exact e2
          obtain ⟨pf, cf, rfl⟩ := slice_of TV2
          have c5 : W5.cell? ⟨gt, 5, none⟩ = some (.slice pf k cf) := by
            have e := World.ownsRow.cellAt TR 5 (by omega)
            rw [show (5 : Nat) = 0 * 8 + 5 from rfl, accRow_get _ 0 5 (by omega), hvs] at e
            exact e
          have HTV := keepH TV2
          have HTF : Hid (∀ b, (Value.slice pf k cf).ownBlock = some b → wi.heap.size ≤ b) := fun b hb => TF b hb
          have HQ := keepH (HK.out.quiet T.chg)
          obtain ⟨vv, len, sv, hb0, hlen⟩ := HK.out.book
          have HB0 := keepH hb0
          have HB5 := keepH (hb0.quiet T.chg)
          have HLEN := keepH hlen
          clear T TR TV TF hvs TV2 hb0 hlen
          go_wp2_with fail
          go_loopw [12] (fun s wx => s = .int .i64 0 ∧ Hid (wx = W5) ∨ s = .int .i64 1 ∧ Hid (AO Wb.heap.size Wb wx Wb.heap.size (i + 1) k)) (fun s _ => 1 - (intOf s).toNat)
          case atStart => exact .inl ⟨rfl, by first | exact keepH rfl | exact keepH trivial⟩
          case round =>
            rcases hrel with ⟨rfl, HW⟩ | ⟨rfl, HN⟩
            · have e1 : wr = W5 := HW.out
              rw [e1]
              clear e1 HW
              go_wp2_with fail
              refine (take_g Wb.heap.size Wb.heap.size i k cf pf vv len sv _ _ (by omega) HB5.out HTV.out (fun j b hj h1 h2 => by
                obtain ⟨ys, hy⟩ := HB0.out.rows j hj
                have := row_lt hy b h1
                have := HTF.out b h2
                omega) (fun b h1 => by
                have := HTF.out b h1
                have := HB0.out.lt
                omega)).mono ?_
              rintro e W6 ⟨rfl, ⟨sv', hb'⟩, C6⟩
              have HN6 := keepH (HQ.out.took HB5.out HLEN.out hb' C6)
              clear hb' C6
              go_wp2_with fail
              go_roundw
              case rel => exact .inr ⟨by first | rfl | go_num, HN6⟩
              case measure => simp [intOf]
            · go_wp2_with fail
              go_roundw
              case rel => exact ⟨i + 1, by omega, by first | rfl | go_num, HN⟩
              case measure => simp [intOf]; omega
        · obtain rfl : i = 2 := by omega
          have t2 : ¬ ((2 : Nat) : Int) < 2 := by omega
          go_wp2_with fail
          refine HTR.mono ?_
          clear HTR
          rintro e W5 ⟨pt, ct, lk, rfl, T⟩
          obtain ⟨vs2, hvs⟩ := T.same 0 acc rfl
          have TV := T.vals 0 _ (by simp) hvs
          have TR := T.row
          simp only [List.length_cons, List.length_nil, Nat.zero_add] at TR
          obtain ⟨gt, dt, hpt⟩ := slice_pos TR (by omega)
          simp only [Value.slice.injEq, true_and] at hpt
          obtain ⟨rfl, rfl⟩ := hpt
          have TV2 : W5.ownsRow 0 28 1 vs2 vals.length (vals.map u64V) := by have e := TV; rw [HACC.out] at e; exact e
          obtain ⟨pf, cf, rfl⟩ := slice_of TV2
          have c5 : W5.cell? ⟨gt, 5, none⟩ = some (.slice pf k cf) := by
            have e := World.ownsRow.cellAt TR 5 (by omega)
            rw [show (5 : Nat) = 0 * 8 + 5 from rfl, accRow_get _ 0 5 (by omega), hvs, HLE.out] at e
            exact e
          have c2 : W5.cell? ⟨gt, 2, none⟩ = some (.int .u64 (a : Int)) := by
            have e := World.ownsRow.cellAt TR 2 (by omega)
            rw [show (2 : Nat) = 0 * 8 + 2 from rfl, accRow_get _ 0 2 (by omega), hvs, HACC.out] at e
            exact e
          have HSM := r_sameU pf p cf c vals W5 (UReads.of_row TV2) (HU0.out.up ((HCW.out.mono (fun _ _ x => x.elim)).trans (HK.out.chg.trans T.chg (H := fun b => Wb.heap.size ≤ b) (fun _ _ x => x) (fun _ _ x => x.elim)) (H := fun b => w.heap.size ≤ b) (fun _ _ x => x) (fun b _ x => by have := HCW.out.size; omega)) (fun _ x => x)) (by rw [HLE.out]; exact bl)
          rw [HLE.out] at HSM
          have HQ := keepH (HK.out.quiet T.chg)
          clear T TR TV hvs TV2 HK
          go_wp2_with fail
          refine HSM.mono ?_
          clear HSM
          rintro e W6 ⟨rfl, C6⟩
          have HQ6 := keepH (HQ.out.quiet C6)
          clear C6 HQ
          go_wp2_with fail
          go_loopw [14] (fun s wx => ∃ j : Nat, j ≤ k ∧ s = .int .i64 (j : Int) ∧ Hid (AO Wb.heap.size Wb wx Wb.heap.size 2 k)) (fun s _ => k - (intOf s).toNat)
          case atStart => exact ⟨0, by omega, rfl, HQ6⟩
          case round =>
            clear HQ6
            obtain ⟨wy, hwy⟩ : ∃ wy, wy = wr := ⟨_, rfl⟩
            rw [← hwy] at hrel ⊢
            clear hwy
            obtain ⟨j, hj, rfl, HY⟩ := hrel
            by_cases hgo : a ≠ 0 ∧ j < k
            · obtain ⟨ha0, hjk⟩ := hgo
              have ha1 : a = 1 := by omega
              subst ha1
              have t3 : (j : Int) < (k : Int) := by omega
              obtain ⟨x, hx⟩ : ∃ x, vals[j]? = some x := ⟨vals[j]'(by rw [HLE.out]; exact hjk), List.getElem?_eq_getElem _⟩
              have hok : alOk 4096 1 k := by
                by_cases h : alOk 4096 1 k
                · exact h
                · have e := HAA.out
                  unfold alAt at e
                  rw [if_neg h] at e
                  omega
              have hcx : cellN cs (1 + j) = x := by rw [HCS.out]; exact al_cell HLE.out hok hjk x hx
              have HPK : Hid (∀ q, Calls Try.prog 18 #[.pointer (some ⟨w.heap.size + 1, 0, none⟩), .int .u64 (1 + (j : Int))] (wy.drewN q) fun e W' => e = .returned (.int .u64 (x : Int)) ∧ W' = wy.drewN q) := fun q => by
                have h := HMEM.out (wy.drewN q) (HY.out.chg.trans (Goes.drewN wy (fun _ => False) q).chg (fun _ _ x => x) (fun _ _ x => x.elim))
                have e := m_peek _ _ 4096 nx (1 + j) F cs [acc] _ h.1 h.2 (by omega)
                rw [hcx] at e
                have e2 : ((1 + j : Nat) : Int) = 1 + (j : Int) := by omega
                rw [e2] at e
                exact e
              obtain ⟨bk, off, rfl, _, c0⟩ := (HU0.out.up ((HCW.out.mono (fun _ _ x => x.elim)).trans HY.out.chg (H := fun b => w.heap.size ≤ b) (fun _ _ x => x) (fun b _ x => by have := HCW.out.size; omega)) (fun _ x => x)).get j x hx
              obtain ⟨z, hz⟩ : ∃ z : Int, z = (x : Int) := ⟨_, rfl⟩
              rw [← hz] at c0 HPK
              have w1 : IntKind.u64.wrap (j : Int) = (j : Int) := by rw [IntKind.wrap_u64]; omega
              have w2 : IntKind.u64.wrap (1 + (j : Int)) = 1 + (j : Int) := by rw [IntKind.wrap_u64]; omega
              clear hx hcx hz hok
              go_wp2_with fail
              go_quiet (first | (go_at_call 18; refine (HPK.out _).mono ?_; rintro x y ⟨rfl, rfl⟩; exact ⟨rfl, _, rfl⟩))
              go_wp2_with fail
              go_roundw
              case rel => exact ⟨j + 1, by omega, by first | rfl | go_num, keepH (HY.out.quiet (Goes.drewN wy (fun _ => False) _).chg)⟩
              case measure => simp [intOf]; omega
            · have HEND : Hid (Chg (fun b => w.heap.size ≤ b) w wy ∧ AO Wb.heap.size Wb wy Wb.heap.size 2 k) := ⟨(HCW.out.mono (fun _ _ x => x.elim)).trans HY.out.chg (fun _ _ x => x) (fun b _ x => by have := HCW.out.size; omega), HY.out⟩
              have HGO : Hid (¬ (a ≠ 0 ∧ j < k)) := hgo
              clear hgo
              by_cases ha0 : a = 0
              · subst ha0
                go_wp2_with fail
                refine (a_live _).mono ?_
                rintro e W7 ⟨rfl, C7⟩
                have HQ7 := keepH (HEND.out.2.quiet C7)
                have HC7 : Hid (Chg (fun b => w.heap.size ≤ b) w W7) := HEND.out.1.trans C7 (fun _ _ x => x) (fun _ _ x => x.elim)
                clear C7
                obtain ⟨vv, len, sv, hb0, hlen⟩ := HQ7.out.book
                have HB0 := keepH hb0
                have HLEN := keepH hlen
                clear hb0 hlen
                go_wp2_with fail
                refine (aloneAll_g Wb.heap.size Wb.heap.size 2 vv len sv _ (by omega) (by omega) HB0.out (fun j hj => by rw [HLEN.out j hj]; exact bl)).mono ?_
                rintro e W8 ⟨rfl, C8⟩
                have HC8 : Hid (Chg (fun b => w.heap.size ≤ b) w W8) := HC7.out.trans C8 (fun _ _ x => x) (fun b _ x => by have := HCW.out.size; omega)
                clear C8
                go_wp2_with fail
                go_ret
                exact ⟨by simp, HC8.out.below (Nat.le_refl _)⟩
              · obtain rfl : j = k := by have := HGO.out; omega
                have ha1 : a = 1 := by omega
                subst ha1
                have t3 : ¬ (j : Int) < (j : Int) := by omega
                go_wp2_with fail
                refine (a_live _).mono ?_
                rintro e W7 ⟨rfl, C7⟩
                have HQ7 := keepH (HEND.out.2.quiet C7)
                have HC7 : Hid (Chg (fun b => w.heap.size ≤ b) w W7) := HEND.out.1.trans C7 (fun _ _ x => x) (fun _ _ x => x.elim)
                clear C7
                obtain ⟨vv, len, sv, hb0, hlen⟩ := HQ7.out.book
                have HB0 := keepH hb0
                have HLEN := keepH hlen
                clear hb0 hlen
                go_wp2_with fail
                refine (aloneAll_g Wb.heap.size Wb.heap.size 2 vv len sv _ (by omega) (by omega) HB0.out (fun i hi => by rw [HLEN.out i hi]; exact bl)).mono ?_
                rintro e W8 ⟨rfl, C8⟩
                have HC8 : Hid (Chg (fun b => w.heap.size ≤ b) w W8) := HC7.out.trans C8 (fun _ _ x => x) (fun b _ x => by have := HCW.out.size; omega)
                clear C8
                go_wp2_with fail
                go_ret
                exact ⟨by simp, HC8.out.below (Nat.le_refl _)⟩

set_option maxRecDepth 100000 in
theorem lifted (os : Os) (started : os.Started) (H : Type) (enc : TypeId × Value → H) :
    ReturnsInHanded {} Try.checked os 4 .any (Rows.arenaOwnSpec.pre6 enc Try.prog Try.f4 Rows.arenaOwnRow.domain false) (Rows.arenaOwnSpec.post enc Try.prog Try.f4 false true false false) := by
  refine returnsInHanded_of_change_sized (C := Try.checked) own started (by kernel_rfl) Try.func4
    (ChangeSpec.witness6 (enc := enc) (C := Try.checked) false ⟨#[], #[.slice none 0 0], []⟩ 8 (by kernel_rfl) (by kernel_rfl) (by kernel_rfl) (by kernel_rfl)) ?_
  intro W base args ds gs before hval0 hW hcnd hsz0 _
  have hval : ∀ (j : Nat) t v, Try.f4.params[j]? = some t → args[j]? = some v → Value.okWide Try.prog W .any base t v := hval0
  have hsz : (DataW.weightsEach Try.prog (Try.f4.params.toList ++ Rows.arenaOwnSpec.plain.varTypes Try.prog) (ds ++ gs)).all (· ≤ reachBytes) = true := hsz0
  clear hsz0
  have hW' := hW
  obtain ⟨p, q, hA0, hV, rfl, hfz, hnd⟩ := hW
  have hA : DataW.TrodAll enc Try.prog W 0 (fun _ => true) true Try.f4.params.toList args.toList ds p := hA0
  rw [Try.params4] at hA hval hsz
  obtain ⟨v0, vs0, d0, ds0, p0, q0, hargs, rfl, rfl, h0, r0⟩ := trodAll_cons hA
  obtain ⟨rfl, rfl, rfl⟩ := trodAll_nil r0
  obtain rfl : args = #[v0] := by cases args; simp_all
  obtain ⟨rfl, rfl⟩ := trodVars_none hV
  have k0 := h0
  have lt0 : ∀ x ∈ p0, x.block < W.heap.size := by obtain ⟨m, hm⟩ := k0; exact DataW.trod_lt m _ _ _ hm
  obtain ⟨p, n, c, rfl⟩ := okWide_slice Try.underlying29 (hval 0 29 v0 rfl rfl)
  have sl := slice_size Try.underlying29 h0 hsz (j := 0) rfl rfl
  rw [bytesU] at sl
  obtain ⟨vals, hlen, hR, hv, hq⟩ := u64s_open h0
  have bl : n ≤ 17592186043904 := by simp only [reachBytes] at sl; omega
  clear hA0 hval0
  refine (walk p c n vals W hlen (UReads.of_reads hR hq) hv bl).mono fun e W' ⟨he, bel⟩ => ?_
  subst he
  exact ⟨_, rfl, _, _, _, [], _, [], hW', trodAll_mk1 (shut_bool Try.underlying4 _), (trodAll_cons_mk (Below.trod laidOut (by kernel_rfl) (of_decide_eq_true (by kernel_rfl)) k0 bel lt0) trodAll_mk0), rfl, bel.frame _, fun h => by cases h⟩

theorem over : Rows.arenaOwnRow.holds Try.pinned (OpenSpec.ofChange Rows.arenaOwnSpec) :=
  OpenClaim.holds_of_wide 4 Try.f4 rfl rfl rfl rfl rfl rfl rfl ⟨rfl, rfl, rfl, rfl, rfl⟩ rfl rfl rfl rfl rfl (by kernel_rfl) Try.func4 (by kernel_rfl)
    (of_decide_eq_true (by kernel_rfl)) (by unfold Func.isWrapper; first | (rw [if_pos (by decide +kernel)]; kernel_rfl) | (rw [if_neg (by decide +kernel)]; exact ⟨rfl, rfl⟩))
    (fun os started H enc _ => lifted os started H enc)
end Go.Proofs.Ytjnkefggmklaoaa.arenaOwn
namespace Go.Proofs.Ytjnkefggmklaoaa
theorem arenaOwn_holds : Rows.ArenaOwnSaid := arenaOwn.over
end Go.Proofs.Ytjnkefggmklaoaa
