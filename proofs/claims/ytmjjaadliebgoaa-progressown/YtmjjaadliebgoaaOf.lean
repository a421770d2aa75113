/- The document's Own. -/
import Derived.Test.YtmjjaadliebgoaaOe
import Derived.Maps.AppendAt
namespace Go.Proofs.Ytmjjaadliebgoaa
open Go.RowKit
set_option linter.unusedVariables false

/-- The steps of a thread among the first accesses. -/
def stepsOf (r : ResA) (th : Int) : Nat → List Int
  | 0 => []
  | k + 1 => if (r.ts[k]?).map AccA.th = some th then stepsOf r th k ++ [stp r.ss k] else stepsOf r th k
theorem stepsOf_le (r : ResA) (th : Int) (k : Nat) : (stepsOf r th k).length ≤ k := by
  induction k with
  | zero => simp [stepsOf]
  | succ k ih => simp only [stepsOf]; split
                 · simp; omega
                 · omega
theorem stepsOf_in {r : ResA} {k : Nat} {x : AccA} (hx : r.ts[k]? = some x) (d : DidA) : inN (stepsOf r d.th (k + 1)) d = inN (stepsOf r d.th k) d + (if x.th = d.th ∧ d.fr ≤ stp r.ss k ∧ (d.tz < 0 ∨ stp r.ss k ≤ d.tz) then 1 else 0) := by
  simp only [stepsOf, hx, Option.map_some, Option.some.injEq]
  by_cases c : x.th = d.th
  · rw [if_pos c]
    unfold inN
    rw [List.countP_append]
    congr 1
    simp [c]
  · rw [if_neg c]
    simp [c]
theorem inN_le (l : List Int) (d : DidA) : inN l d ≤ l.length := List.countP_le_length
def oneN (n : Nat) : Nat := if n = 0 then 1 else n
def ownL (r : ResA) (i : Nat) : List Int := (r.ds.take i).map fun d => ((oneN (inN (stepsOf r d.th r.ts.length) d) : Nat) : Int)
theorem ownL_more {r : ResA} {i : Nat} {d : DidA} (h : r.ds[i]? = some d) : ownL r (i + 1) = ownL r i ++ [((oneN (inN (stepsOf r d.th r.ts.length) d) : Nat) : Int)] := by
  unfold ownL
  rw [List.take_add_one, h]
  simp
theorem info3 : (Try.prog.info? 3).map (fun i => (i.zero, i.size, i.bytes)) = some (some (.int .i64 0), 1, 8) := by kernel_rfl
structure OL (r : ResA) (W wr : World) (v : Value) (i : Nat) (zs : List Int) : Prop where
  row : wr.ownsRow (W.heap.size + 1) 3 1 v i (zs.map (Value.int .i64))
  box : wr.heap[W.heap.size]? = some (.cells r.cells.toArray 26 (0, 0))
  chg : Chg (fun _ => False) W wr
theorem rowB_chg {W W' : World} {B : Nat} {e : TypeId} {s n : Nat} {v : Value} {xs : List Value} (h : W.ownsRow B e s v n xs) (c : Chg (fun _ => False) W W') : W'.ownsRow B e s v n xs :=
  h.kept (row := none) ⟨c.os, c.tape, c.output, c.size, fun k hk _ => c.block k hk (fun x => x)⟩ (by cases v.ownBlock <;> simp)
theorem OL.quiet {r : ResA} {W wr wx : World} {v : Value} {i : Nat} {zs : List Int} (h : OL r W wr v i zs) (c : Chg (fun _ => False) wr wx) : OL r W wx v i zs :=
  ⟨rowB_chg h.row c, (c.block _ (lt_of h.box) (fun x => x)).trans h.box, h.chg.falls c⟩
theorem OL.add {r : ResA} {W wr w2 : World} {v v2 : Value} {i : Nat} {zs : List Int} {z : Int} (h : OL r W wr v i zs) (hr : w2.ownsRow (W.heap.size + 1) 3 1 v2 (i + 1) (zs.map (Value.int .i64) ++ [.int .i64 z])) (hg : wr.grownBy w2 v.ownBlock) : OL r W w2 v2 (i + 1) (zs ++ [z]) :=
  ⟨by simpa using hr, (hg.block _ (lt_of h.box) (fun e => by have := (h.row.lt _ e.symm).1; omega)).trans h.box, h.chg.grown hg (fun k e hk => by have := (h.row.lt _ e).1; omega)⟩

set_option maxRecDepth 100000 in
set_option maxHeartbeats 8000000 in
theorem r_own (r : ResA) (W : World) (h : r.At W) : Calls Try.prog 7 #[.agg r.cells.toArray] W fun e w => ∃ v, e = .returned v ∧ w.ownsRow (W.heap.size + 1) 3 1 v r.ds.length ((ownL r r.ds.length).map (Value.int .i64)) ∧ Chg (fun _ => False) W w := by
  have HR := keepH h
  have hnd := h.nd
  have hnt := h.nt
  clear h
  obtain ⟨i0, hi, hz0, hz1, hz2⟩ := info_parts info3
  obtain ⟨W1, hW1⟩ : ∃ W1, W1 = W.alloc (.cells r.cells.toArray 26) := ⟨_, rfl⟩
  have C1 : Chg (fun _ => False) W W1 := by rw [hW1]; exact (Chg.refl _ _).alloc _
  have k1 : W1.heap[W.heap.size]? = some (.cells r.cells.toArray 26 (0, 0)) := by rw [hW1]; exact heap_alloc_new _ _
  have L1 : Hid (OL r W W1 (.slice none 0 0) 0 []) := ⟨World.ownsRow_nil _ _ _ _, k1, C1⟩
  clear C1 k1
  go_enter Try.func7, Try.ntmps7
  go_upto_region 1 with fail
  rw [← hW1]
  clear hW1
  go_wp2_with fail
  go_loopw [3, 4] (fun v s wr => ∃ k : Nat, k ≤ r.ds.length ∧ s = .int .i64 (k : Int) ∧ Hid (OL r W wr v k (ownL r k))) (fun _ s _ => r.ds.length - (intOf s).toNat)
  case atStart => exact ⟨0, by omega, rfl, L1⟩
  case round =>
    clear L1
    obtain ⟨i, hk, rfl, HK⟩ := hrel
    have b0 : wr.cell? ⟨W.heap.size, 0, none⟩ = some (.slice r.pd r.ds.length r.cd) := cell_of HK.out.box 0
    by_cases hlt : i < r.ds.length
    · have t1 : (i : Int) < (r.ds.length : Int) := by omega
      obtain ⟨d, hd⟩ : ∃ d, r.ds[i]? = some d := ⟨r.ds[i], List.getElem?_eq_getElem hlt⟩
      obtain ⟨bk, off, e, hb, c0⟩ := (HR.out.ds.chg HK.out.chg).get i d.cells (by simp [hd])
      rw [e] at b0
      clear e
      have d0 : wr.cell? ⟨bk, off + i * 22, none⟩ = some (.int .i64 d.th) := c0 0 _ rfl
      have d1 : wr.cell? ⟨bk, off + i * 22 + 1, none⟩ = some (.int .i64 d.ix) := c0 1 _ rfl
      have d2 : wr.cell? ⟨bk, off + i * 22 + 2, none⟩ = some (.int .i64 d.fr) := c0 2 _ rfl
      have d3 : wr.cell? ⟨bk, off + i * 22 + 3, none⟩ = some (.int .i64 d.tz) := c0 3 _ rfl
      obtain ⟨w2, hw2, B2, C2, th⟩ := new_row wr 48 [.int .i64 0, .int .i64 0, .int .i64 0, .int .i64 0] [.int .i64 d.th, .int .i64 d.ix, .int .i64 d.fr, .int .i64 d.tz] rfl
      have HD := keepH hd
      have HW2 := keepH hw2
      have HTH := keepH th
      have HB2 := keepH B2
      have HL2 := keepH (HK.out.quiet C2)
      have e5 := lt_of B2
      clear hd hw2 th B2 C2 c0 hb
      go_wp2_with (first
          | (refine wpList_store_to rfl 48 (.tmp 5) (.tmp 21) rfl wr.heap.size 0 #[.int .i64 d.th, .int .i64 d.ix, .int .i64 d.fr, .int .i64 d.tz] rfl rfl HTH.out (by kernel_rfl) (by kernel_rfl) w2 HW2.out ?_; clear HW2 HTH)
          | fail)
      clear b0 d0 d1 d2 d3
      obtain ⟨P, hP⟩ : ∃ P, P = wr.heap.size := ⟨_, rfl⟩
      rw [← hP] at e5 ⊢
      have HB3 : Hid (w2.heap[P]? = some (.cells #[.int .i64 d.th, .int .i64 d.ix, .int .i64 d.fr, .int .i64 d.tz] 48 (0, 0))) := by rw [hP]; exact HB2.out
      clear hP HB2
      go_loopw [6, 7] (fun x s wx => ∃ k : Nat, k ≤ r.ts.length ∧ s = .int .i64 (k : Int) ∧ x = .int .i64 ((inN (stepsOf r d.th k) d : Nat) : Int) ∧ Hid (Chg (fun _ => False) w2 wx)) (fun _ s _ => r.ts.length - (intOf s).toNat)
      case atStart => exact ⟨0, by omega, rfl, rfl, keepH (Chg.refl _ _)⟩
      case round =>
        clear HK
        obtain ⟨k, hk2, rfl, rfl, HC⟩ := hrel
        have HL := keepH (HL2.out.quiet HC.out)
        have b0 : wr.cell? ⟨W.heap.size, 0, none⟩ = some (.slice r.pd r.ds.length r.cd) := cell_of HL.out.box 0
        have b1 : wr.cell? ⟨W.heap.size, 1, none⟩ = some (.slice r.pt r.ts.length r.ct) := cell_of HL.out.box 1
        have b2 : wr.cell? ⟨W.heap.size, 2, none⟩ = some (.slice r.ps r.ss.length r.cs) := cell_of HL.out.box 2
        by_cases hl2 : k < r.ts.length
        · have t2 : (k : Int) < (r.ts.length : Int) := by omega
          obtain ⟨x, hx⟩ : ∃ x, r.ts[k]? = some x := ⟨r.ts[k], List.getElem?_eq_getElem hl2⟩
          obtain ⟨z, hz⟩ : ∃ z, z = stp r.ss k := ⟨_, rfl⟩
          have HZ := keepH hz
          have hin := inN_le (stepsOf r d.th k) d
          have hle := stepsOf_le r d.th k
          have hst := stepsOf_in hx d
          rw [← hz] at hst
          have HST := keepH hst
          obtain ⟨n, hn⟩ : ∃ n, n = inN (stepsOf r d.th k) d := ⟨_, rfl⟩
          rw [← hn] at hin ⊢
          have HN := keepH hn
          have hnk : n ≤ k := by omega
          have HCS := keepH (r_step r k wr (HR.out.chg HL.out.chg) (by omega))
          have w1 : IntKind.i64.wrap ((n : Int) + 1) = ((n + 1 : Nat) : Int) := by rw [IntKind.wrap_i64]; omega
          have HX : Hid (∀ w, Chg (fun _ => False) wr w → (∃ bt ot, r.pt = some ⟨bt, ot, none⟩ ∧ w.cell? ⟨bt, ot + k * 8, none⟩ = some (.int .i64 x.th)) ∧ w.cell? ⟨P, 0, none⟩ = some (.int .i64 d.th) ∧ w.cell? ⟨P, 2, none⟩ = some (.int .i64 d.fr) ∧ w.cell? ⟨P, 3, none⟩ = some (.int .i64 d.tz) ∧ w.cell? ⟨W.heap.size, 1, none⟩ = some (.slice r.pt r.ts.length r.ct)) := fun w hw => by
            obtain ⟨bt, ot, e, _, c0⟩ := ((HR.out.chg HL.out.chg).chg hw).ts.get k x.cells (by simp [hx])
            have q := (((HC.out.falls hw).block _ (lt_of HB3.out) (fun x => x)).trans HB3.out)
            exact ⟨⟨bt, ot, e, c0 0 _ rfl⟩, cell_of q 0, cell_of q 2, cell_of q 3, cell_of (HL.out.quiet hw).box 1⟩
          clear hz hst hn hin hle hx
          by_cases c1 : x.th = d.th
          · have d1 : decide (x.th = d.th) = true := by simpa using c1
            by_cases c2 : d.fr ≤ z
            · have d2 : decide (d.fr ≤ z) = true := by simpa using c2
              by_cases c3 : d.tz < 0
              · have d3 : decide (d.tz < 0) = true := by simpa using c3

                go_wp2_with fail
                refine HCS.out.mono ?_
                rintro e w5 ⟨rfl, C5⟩
                rw [← HZ.out]
                obtain ⟨⟨bt, ot, ept, x0⟩, p0, p2, p3, p1⟩ := HX.out w5 C5
                rw [ept] at p1
                clear ept
                have HC5 := keepH (HC.out.falls C5)
                clear C5
                go_wp2_with fail
                go_quiet (fail)
                go_wp2_with fail
                go_roundw
                case rel => exact ⟨k + 1, by omega, by first | rfl | go_num, by rw [HST.out, ← HN.out]; simp [c1, c2, c3], keepH (HC5.out.falls ⟨rfl, rfl, rfl, Nat.le_refl _, fun _ _ _ => rfl⟩)⟩
                case measure => simp [intOf]; omega
              · have d3 : decide (d.tz < 0) = false := by simpa using c3
                by_cases c4 : z ≤ d.tz
                · have d4 : decide (z ≤ d.tz) = true := by simpa using c4

                  go_wp2_with fail
                  refine HCS.out.mono ?_
                  rintro e w5 ⟨rfl, C5⟩
                  rw [← HZ.out]
                  obtain ⟨⟨bt, ot, ept, x0⟩, p0, p2, p3, p1⟩ := HX.out w5 C5
                  rw [ept] at p1
                  clear ept
                  have HC5 := keepH (HC.out.falls C5)
                  clear C5
                  go_wp2_with fail
                  go_quiet (fail)
                  go_wp2_with fail
                  go_roundw
                  case rel => exact ⟨k + 1, by omega, by first | rfl | go_num, by rw [HST.out, ← HN.out]; simp [c1, c2, c4], keepH (HC5.out.falls ⟨rfl, rfl, rfl, Nat.le_refl _, fun _ _ _ => rfl⟩)⟩
                  case measure => simp [intOf]; omega
                · have d4 : decide (z ≤ d.tz) = false := by simpa using c4

                  go_wp2_with fail
                  refine HCS.out.mono ?_
                  rintro e w5 ⟨rfl, C5⟩
                  rw [← HZ.out]
                  obtain ⟨⟨bt, ot, ept, x0⟩, p0, p2, p3, p1⟩ := HX.out w5 C5
                  rw [ept] at p1
                  clear ept
                  have HC5 := keepH (HC.out.falls C5)
                  clear C5
                  go_wp2_with fail
                  go_quiet (fail)
                  go_wp2_with fail
                  go_roundw
                  case rel => exact ⟨k + 1, by omega, by first | rfl | go_num, by rw [HST.out, ← HN.out]; rw [if_neg (by omega)]; simp, keepH (HC5.out.falls ⟨rfl, rfl, rfl, Nat.le_refl _, fun _ _ _ => rfl⟩)⟩
                  case measure => simp [intOf]; omega
            · have d2 : decide (d.fr ≤ z) = false := by simpa using c2

              go_wp2_with fail
              refine HCS.out.mono ?_
              rintro e w5 ⟨rfl, C5⟩
              rw [← HZ.out]
              obtain ⟨⟨bt, ot, ept, x0⟩, p0, p2, p3, p1⟩ := HX.out w5 C5
              rw [ept] at p1
              clear ept
              have HC5 := keepH (HC.out.falls C5)
              clear C5
              go_wp2_with fail
              go_quiet (fail)
              go_wp2_with fail
              go_roundw
              case rel => exact ⟨k + 1, by omega, by first | rfl | go_num, by rw [HST.out, ← HN.out]; rw [if_neg (by omega)]; simp, keepH (HC5.out.falls ⟨rfl, rfl, rfl, Nat.le_refl _, fun _ _ _ => rfl⟩)⟩
              case measure => simp [intOf]; omega
          · have d1 : decide (x.th = d.th) = false := by simpa using c1
            have d1b : (x.th == d.th) = false := by simpa using c1

            go_wp2_with fail
            refine HCS.out.mono ?_
            rintro e w5 ⟨rfl, C5⟩
            rw [← HZ.out]
            obtain ⟨⟨bt, ot, ept, x0⟩, p0, p2, p3, p1⟩ := HX.out w5 C5
            rw [ept] at p1
            clear ept
            have HC5 := keepH (HC.out.falls C5)
            clear C5
            go_wp2_with fail
            go_quiet (fail)
            go_wp2_with fail
            go_roundw
            case rel => exact ⟨k + 1, by omega, by first | rfl | go_num, by rw [HST.out, ← HN.out]; rw [if_neg (by omega)]; simp, keepH (HC5.out.falls ⟨rfl, rfl, rfl, Nat.le_refl _, fun _ _ _ => rfl⟩)⟩
            case measure => simp [intOf]; omega
        · obtain rfl : k = r.ts.length := by omega
          have t2 : ¬ (r.ts.length : Int) < (r.ts.length : Int) := by omega
          obtain ⟨m, hm⟩ : ∃ m, m = oneN (inN (stepsOf r d.th r.ts.length) d) := ⟨_, rfl⟩
          have HM := keepH hm
          obtain ⟨n, hn⟩ : ∃ n, n = inN (stepsOf r d.th r.ts.length) d := ⟨_, rfl⟩
          rw [← hn] at hm ⊢
          have hmn : m = if n = 0 then 1 else n := hm
          clear hm hn
          by_cases z0 : n = 0
          · obtain rfl : n = 0 := z0
            obtain rfl : m = 1 := hmn
            go_wp2_with (first
                | (at_builtin; refine wpList_append_own_at _ rfl _ _ 24 rfl (W.heap.size + 1) 3 i0 (.int .i64 0) 1 8 Try.underlying24 hi hz0 hz1 hz2 rfl (by decide) _ _ _ rfl (HL.out.row.alloc _) ⟨wr.heap.size, 0, none⟩ 1 1 [.int .i64 1] rfl rfl (cell_one_new _ _ _) (ints_oneCell .i64 [1]) (by unfold maxLen; omega) (by omega) (by have := lt_of HL.out.box; simp; omega) ?_; intro v' w6 hown' hgrow hnil hloc)
                | fail)
            have HL6 := keepH ((HL.out.quiet ((Chg.refl _ _).alloc _)).add hown' hgrow)
            clear hown' hgrow hnil hloc
            go_roundw
            case rel => exact ⟨i + 1, by omega, by first | rfl | go_num, keepH (by rw [ownL_more HD.out, ← HM.out]; exact HL6.out)⟩
            case measure => simp [intOf]; omega
          · obtain rfl : m = n := by rw [hmn, if_neg z0]
            have z1 : ¬ (m : Int) = 0 := by omega
            have z2 : ((m : Int) == 0) = false := by simpa using z0
            clear hmn
            go_wp2_with (first
                | (at_builtin; refine wpList_append_own_at _ rfl _ _ 24 rfl (W.heap.size + 1) 3 i0 (.int .i64 0) 1 8 Try.underlying24 hi hz0 hz1 hz2 rfl (by decide) _ _ _ rfl (HL.out.row.alloc _) ⟨wr.heap.size, 0, none⟩ 1 1 [.int .i64 (m : Int)] rfl rfl (cell_one_new _ _ _) (ints_oneCell .i64 [(m : Int)]) (by unfold maxLen; omega) (by omega) (by have := lt_of HL.out.box; simp; omega) ?_; intro v' w6 hown' hgrow hnil hloc)
                | fail)
            have HL6 := keepH ((HL.out.quiet ((Chg.refl _ _).alloc _)).add hown' hgrow)
            clear hown' hgrow hnil hloc
            go_roundw
            case rel => exact ⟨i + 1, by omega, by first | rfl | go_num, keepH (by rw [ownL_more HD.out, ← HM.out]; exact HL6.out)⟩
            case measure => simp [intOf]; omega
    · obtain rfl : i = r.ds.length := by omega
      have t1 : ¬ (r.ds.length : Int) < (r.ds.length : Int) := by omega
      go_wp2_with fail
      go_ret
      exact ⟨_, rfl, HK.out.row, HK.out.chg⟩
end Go.Proofs.Ytmjjaadliebgoaa
