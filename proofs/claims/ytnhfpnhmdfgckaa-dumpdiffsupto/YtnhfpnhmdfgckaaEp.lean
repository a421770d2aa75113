/- The document's Diff of right pairs. -/
import Derived.Test.YtnhfpnhmdfgckaaEm
namespace Go.Proofs.Ytnhfpnhmdfgckaa
open Go.RowKit Go.Joins
set_option linter.unusedVariables false

theorem infoChrE : (Try.prog.info? 89).map (fun i => (i.zero, i.size, i.bytes)) = some (some (.agg #[.int .u64 0, .bool false, .bool false, .int .u64 0, .int .u64 0]), 5, 32) := by kernel_rfl
theorem chg_drewN {F : Nat → Prop} {a b : World} (h : Chg F a b) (n : Nat) : Chg F a (b.drewN n) := ⟨h.os, h.tape, h.output, h.size, h.block⟩
theorem gen_world {P : World → Prop} {T : World} (h : ∀ X, X = T → P X) : P T := h T rfl
theorem row_chg {wr Y : World} {B : Nat} {e : TypeId} {s n : Nat} {v : Value} {xs : List Value} (h : wr.ownsRow B e s v n xs) (c : Chg (fun _ => False) wr Y) : Y.ownsRow B e s v n xs :=
  row_kept' h (fun k e => c.block k (h.lt k e).2 (fun x => x))
theorem end_chg {W2 wr Y w3 : World} {e : TypeId} {s n : Nat} {v : Value} {xs : List Value} (hb : Below W2.heap.size W2 wr) (h : wr.ownsRow W2.heap.size e s v n xs) (c : Chg (fun _ => False) wr Y) (g : Y.grownBy w3 v.ownBlock) : Below W2.heap.size W2 w3 :=
  chg_belowE (((below_chgE hb).trans c (H := fun _ => False) (fun _ _ x => x) (fun _ _ x => x)).trans (grown_chgE (F := fun j => W2.heap.size ≤ j) g (fun j e => (h.lt j e).1)) (fun _ _ x => x.elim) (fun _ _ x => x))
set_option maxRecDepth 100000 in
set_option maxHeartbeats 8000000 in
theorem e_diff_yes {W : World} {pa pb : Option Addr} {la lb : List (Nat × Nat)} (HA : PairsAt W pa la) (HB : PairsAt W pb lb) (ca cb : Nat) (hla : la.length ≤ 10000000) (hlb : lb.length ≤ 10000000) (ra : riseB la = true) (rb : riseB lb = true) :
    Calls Try.prog 21 #[.slice pa la.length ca, .slice pb lb.length cb] W fun e W' => (∃ v, e = .returned (.tuple #[v, .int .i64 0]) ∧ W'.ownsRow W.heap.size 89 5 v (diffL la lb).length (chRow (diffL la lb))) ∧ Below W.heap.size W W' := by
  obtain ⟨i0, hi, hz0, hz1, hz2⟩ := info_parts infoChrE
  have HC := e_right HA ca (by omega)
  have HD := fun W1 (h : Below W.heap.size W W1) => e_right (W := W1) (HB.chgF (below_chgE h) (fun _ _ _ x => x)) cb (by omega)
  rw [ra] at HC
  rw [rb] at HD
  replace HC := keepH HC
  replace HD := keepH HD
  have HAA := keepH HA
  have HBB := keepH HB
  clear HA HB ra rb
  go_enter Try.func21, Try.ntmps21
  go_wp2_with (first | (go_at_call 39; refine HC.out.mono ?_; clear HC; rintro e W1 ⟨rfl, hB1⟩; have HB1 := keepH hB1; clear hB1) | (go_at_call 39; refine (HD.out _ HB1.out).mono ?_; clear HD; rintro e W2 ⟨rfl, hB2⟩; have HB2 := keepH (below_trans HB1.out hB2); clear hB2 HB1))
  go_loopw [6, 7, 8] (fun s q r wr => ∃ (i k : Nat) (pre : List (Option (Nat × Nat) × Option (Nat × Nat))), i ≤ la.length ∧ k ≤ lb.length ∧ q = .int .i64 (i : Int) ∧ r = .int .i64 (k : Int) ∧ Hid (pre ++ mrg (fun y : Nat × Nat => y.1) (la.drop i) (lb.drop k) = mrg (fun y : Nat × Nat => y.1) la lb ∧ wr.ownsRow W2.heap.size 89 5 s (diffX pre).length (chRow (diffX pre)) ∧ Below W2.heap.size W2 wr) ∧ pre.length ≤ i + k) (fun _ q r _ => la.length + lb.length - (intOf q).toNat - (intOf r).toNat)
  case atStart => exact ⟨0, 0, [], Nat.zero_le _, Nat.zero_le _, rfl, rfl, keepH ⟨by simp, World.ownsRow_nil _ _ _ _, Below.refl _ _⟩, by simp⟩
  case round =>
    obtain ⟨i, k, pre, hil, hkl, rfl, rfl, HX, hpl⟩ := hrel
    have HLN : Hid ((diffX pre).length < 30000000) := keepH (by have := diffX_len pre; omega)
    by_cases ha : i < la.length
    · by_cases hb : k < lb.length
      · skip
        obtain ⟨⟨ka, xa⟩, hxa⟩ : ∃ y, la[i]? = some y := ⟨la[i]'(by omega), List.getElem?_eq_getElem _⟩
        have HLA := keepH hxa
        obtain ⟨bka, offa, rfl, _, _, a0, a1⟩ := HAA.out.getB (below_trans HB2.out HX.out.2.2) i ka xa hxa
        have hba : bka < wr.heap.size := World.block_lt_of_cell? wr _ a0
        have qa : (i : Int) < (la.length : Int) := by omega
        clear hxa
        obtain ⟨⟨kb, xb⟩, hxb⟩ : ∃ y, lb[k]? = some y := ⟨lb[k]'(by omega), List.getElem?_eq_getElem _⟩
        have HLB := keepH hxb
        obtain ⟨bkb, offb, rfl, _, _, b0, b1⟩ := HBB.out.getB (below_trans HB2.out HX.out.2.2) k kb xb hxb
        have hbb : bkb < wr.heap.size := World.block_lt_of_cell? wr _ b0
        have qb : (k : Int) < (lb.length : Int) := by omega
        clear hxb
        rcases Nat.lt_trichotomy ka kb with t | t | t
        · have t1 : decide ((ka : Int) ≤ (kb : Int)) = true := decide_eq_true (by omega)
          have t2 : decide ((kb : Int) ≤ (ka : Int)) = false := decide_eq_false (by omega)
          have t3 : (ka : Int) ≤ (kb : Int) := by omega
          have t4 : ¬ (kb : Int) ≤ (ka : Int) := by omega
          have HT := keepH t
          clear t
          go_wp2_with fail
          go_quiet (fail)
          go_wp2_with fail
          go_quiet (fail)
          go_wp2_with fail
          go_region
          go_wp2_with (first | (at_builtin; go_loud (refine wpList_append_own_at _ rfl _ _ 38 rfl W2.heap.size 89 i0 (.agg #[.int .u64 0, .bool false, .bool false, .int .u64 0, .int .u64 0]) 5 32 Try.underlying38 hi hz0 hz1 hz2 rfl (by decide) _ _ _ rfl (row_chg HX.out.2.1 (by repeat' (first | refine Chg.setCell ?_ (fun h => absurd h (Nat.lt_irrefl _)) _ | refine Chg.alloc ?_ _ | refine chg_drewN ?_ _ | refine Chg.drew ?_ | exact Chg.refl _ _))) ⟨_, 0, none⟩ 1 1 [.int .u64 (ka : Int), .bool true, .bool false, .int .u64 (xa : Int), .int .u64 0] rfl rfl (cells_newE _ _ (by simp [World.setCell, World.drewN]) _ _) (by intro u hu; simp at hu; rcases hu with rfl | rfl | rfl | rfl | rfl <;> rfl) (by unfold maxLen; have := HLN.out; omega) (by have := HLN.out; omega) (Nat.le_trans HX.out.2.2.size (Chg.size (F := fun _ => False) (by repeat' (first | refine Chg.setCell ?_ (fun h => absurd h (Nat.lt_irrefl _)) _ | refine Chg.alloc ?_ _ | refine chg_drewN ?_ _ | refine Chg.drew ?_ | exact Chg.refl _ _)))) ?_); intro v' w3 r1 r2 r3 r4; have R1 := keepH r1; have R2 := keepH (end_chg HX.out.2.2 HX.out.2.1 (by repeat' (first | refine Chg.setCell ?_ (fun h => absurd h (Nat.lt_irrefl _)) _ | refine Chg.alloc ?_ _ | refine chg_drewN ?_ _ | refine Chg.drew ?_ | exact Chg.refl _ _)) r2); clear r1 r2 r3 r4))
          go_roundw
          case rel => exact ⟨i + 1, k, pre ++ [(some (ka, xa), none)], by omega, by omega, by first | rfl | go_num, by first | rfl | go_num, keepH ⟨by rw [← HX.out.1, drop_of HLA.out, drop_of HLB.out, mrg_lt _ HT.out]; simp, by rw [diffX_add, if_pos (by simp [chOf, Ch.right]), chRow_add]; have := R1.out; simpa [chOf, Ch.cells] using this, R2.out⟩, by simp; omega⟩
          case measure => simp [intOf]; omega
        · have t1 : decide ((ka : Int) ≤ (kb : Int)) = true := decide_eq_true (by omega)
          have t2 : decide ((kb : Int) ≤ (ka : Int)) = true := decide_eq_true (by omega)
          have t3 : (ka : Int) ≤ (kb : Int) := by omega
          have t4 : (kb : Int) ≤ (ka : Int) := by omega
          have HT := keepH t
          clear t
          by_cases v : xa = xb
          · subst v
            go_wp2_with fail
            go_quiet (fail)
            go_wp2_with fail
            go_quiet (fail)
            go_wp2_with fail
            go_region
            go_wp2_with fail
            refine gen_world (P := fun w => Code.wp _ _ _ _ w) ?_
            intro X hX
            have HX9 : Hid (X.heap[wr.heap.size]? = some (.cells #[.int .u64 (ka : Int), .bool true, .bool false, .int .u64 (xa : Int), .int .u64 0] 89 (0, 0)) ∧ Chg (fun _ => False) wr X) := keepH (by
              refine ⟨?_, by rw [hX]; exact (by repeat' (first | refine Chg.setCell ?_ (fun h => absurd h (Nat.lt_irrefl _)) _ | refine Chg.alloc ?_ _ | refine chg_drewN ?_ _ | refine Chg.drew ?_ | exact Chg.refl _ _))⟩
              rw [hX]
              exact set_of (set_of (set_of (W := (wr.alloc (.cells #[.int .u64 0, .bool false, .bool false, .int .u64 0, .int .u64 0] 89)).drewN _) (heap_alloc_new wr _) 0 (.int .u64 (ka : Int))) 1 (.bool true)) 3 (.int .u64 (xa : Int)))
            clear hX
            have e0 := cell_of HX9.out.1 0
            have e1 := cell_of HX9.out.1 1
            have e2 := cell_of HX9.out.1 2
            have e3 := cell_of HX9.out.1 3
            have e4 := cell_of HX9.out.1 4
            have fz := fun k => free_of HX9.out.1 k
            simp at e0 e1 e2 e3 e4
            have b0' := cell_chg HX9.out.2 b0 (fun x => x)
            have b1' := cell_chg HX9.out.2 b1 (fun x => x)
            have hs9 : wr.heap.size < X.heap.size := lt_of HX9.out.1
            have hbn : bkb ≠ wr.heap.size := by omega
            go_region
            go_wp2_with fail
            go_roundw
            case rel => exact ⟨i + 1, k + 1, pre ++ [(some (ka, xa), some (kb, xa))], by omega, by omega, by first | rfl | go_num, by first | rfl | go_num, keepH ⟨by rw [← HX.out.1, drop_of HLA.out, drop_of HLB.out, mrg_eq _ HT.out]; simp, by rw [diffX_add, if_neg (by simp [chOf, Ch.right])]; exact row_chg HX.out.2.1 (by repeat' (first | refine Chg.setCell ?_ (fun h => absurd h (Nat.lt_irrefl _)) _ | refine Chg.alloc ?_ _ | refine chg_drewN ?_ _ | refine Chg.drew ?_ | exact HX9.out.2 | exact Chg.refl _ _)), below_trans HX.out.2.2 (chg_belowE (Chg.mono (F := fun _ => False) (by repeat' (first | refine Chg.setCell ?_ (fun h => absurd h (Nat.lt_irrefl _)) _ | refine Chg.alloc ?_ _ | refine chg_drewN ?_ _ | refine Chg.drew ?_ | exact HX9.out.2 | exact Chg.refl _ _)) (fun _ _ x => x.elim)))⟩, by simp; omega⟩
            case measure => simp [intOf]; omega
          · have v1 : ((xa : Int) != (xb : Int)) = true := by simp; omega
            have v2 : ¬ (xa : Int) = (xb : Int) := by omega
            have HV := keepH v
            clear v
            go_wp2_with fail
            go_quiet (fail)
            go_wp2_with fail
            go_quiet (fail)
            go_wp2_with fail
            go_region
            go_wp2_with fail
            refine gen_world (P := fun w => Code.wp _ _ _ _ w) ?_
            intro X hX
            have HX9 : Hid (X.heap[wr.heap.size]? = some (.cells #[.int .u64 (ka : Int), .bool true, .bool false, .int .u64 (xa : Int), .int .u64 0] 89 (0, 0)) ∧ Chg (fun _ => False) wr X) := keepH (by
              refine ⟨?_, by rw [hX]; exact (by repeat' (first | refine Chg.setCell ?_ (fun h => absurd h (Nat.lt_irrefl _)) _ | refine Chg.alloc ?_ _ | refine chg_drewN ?_ _ | refine Chg.drew ?_ | exact Chg.refl _ _))⟩
              rw [hX]
              exact set_of (set_of (set_of (W := (wr.alloc (.cells #[.int .u64 0, .bool false, .bool false, .int .u64 0, .int .u64 0] 89)).drewN _) (heap_alloc_new wr _) 0 (.int .u64 (ka : Int))) 1 (.bool true)) 3 (.int .u64 (xa : Int)))
            clear hX
            have e0 := cell_of HX9.out.1 0
            have e1 := cell_of HX9.out.1 1
            have e2 := cell_of HX9.out.1 2
            have e3 := cell_of HX9.out.1 3
            have e4 := cell_of HX9.out.1 4
            have fz := fun k => free_of HX9.out.1 k
            simp at e0 e1 e2 e3 e4
            have b0' := cell_chg HX9.out.2 b0 (fun x => x)
            have b1' := cell_chg HX9.out.2 b1 (fun x => x)
            have hs9 : wr.heap.size < X.heap.size := lt_of HX9.out.1
            have hbn : bkb ≠ wr.heap.size := by omega
            go_region
            go_wp2_with (first | (at_builtin; go_loud (refine wpList_append_own_at _ rfl _ _ 38 rfl W2.heap.size 89 i0 (.agg #[.int .u64 0, .bool false, .bool false, .int .u64 0, .int .u64 0]) 5 32 Try.underlying38 hi hz0 hz1 hz2 rfl (by decide) _ _ _ rfl (row_chg HX.out.2.1 (by repeat' (first | refine Chg.setCell ?_ (fun h => absurd h (Nat.lt_irrefl _)) _ | refine Chg.alloc ?_ _ | refine chg_drewN ?_ _ | refine Chg.drew ?_ | exact HX9.out.2 | exact Chg.refl _ _))) ⟨_, 0, none⟩ 1 1 [.int .u64 (kb : Int), .bool true, .bool true, .int .u64 (xa : Int), .int .u64 (xb : Int)] rfl rfl (cells_newE _ _ (by simp [World.setCell]) _ _) (by intro u hu; simp at hu; rcases hu with rfl | rfl | rfl | rfl | rfl <;> rfl) (by unfold maxLen; have := HLN.out; omega) (by have := HLN.out; omega) (Nat.le_trans HX.out.2.2.size (Chg.size (F := fun _ => False) (by repeat' (first | refine Chg.setCell ?_ (fun h => absurd h (Nat.lt_irrefl _)) _ | refine Chg.alloc ?_ _ | refine chg_drewN ?_ _ | refine Chg.drew ?_ | exact HX9.out.2 | exact Chg.refl _ _)))) ?_); intro v' w3 r1 r2 r3 r4; have R1 := keepH r1; have R2 := keepH (end_chg HX.out.2.2 HX.out.2.1 (by repeat' (first | refine Chg.setCell ?_ (fun h => absurd h (Nat.lt_irrefl _)) _ | refine Chg.alloc ?_ _ | refine chg_drewN ?_ _ | refine Chg.drew ?_ | exact HX9.out.2 | exact Chg.refl _ _)) r2); clear r1 r2 r3 r4))
            go_roundw
            case rel => exact ⟨i + 1, k + 1, pre ++ [(some (ka, xa), some (kb, xb))], by omega, by omega, by first | rfl | go_num, by first | rfl | go_num, keepH ⟨by rw [← HX.out.1, drop_of HLA.out, drop_of HLB.out, mrg_eq _ HT.out]; simp, by rw [diffX_add, if_pos (by simp [chOf, Ch.right, HV.out]), chRow_add]; have := R1.out; simpa [chOf, Ch.cells] using this, R2.out⟩, by simp; omega⟩
            case measure => simp [intOf]; omega
        · have t1 : decide ((ka : Int) ≤ (kb : Int)) = false := decide_eq_false (by omega)
          have t2 : decide ((kb : Int) ≤ (ka : Int)) = true := decide_eq_true (by omega)
          have t3 : ¬ (ka : Int) ≤ (kb : Int) := by omega
          have t4 : (kb : Int) ≤ (ka : Int) := by omega
          have HT := keepH t
          clear t
          go_wp2_with fail
          go_quiet (fail)
          go_wp2_with fail
          go_quiet (fail)
          go_wp2_with fail
          go_region
          go_wp2_with (first | (at_builtin; go_loud (refine wpList_append_own_at _ rfl _ _ 38 rfl W2.heap.size 89 i0 (.agg #[.int .u64 0, .bool false, .bool false, .int .u64 0, .int .u64 0]) 5 32 Try.underlying38 hi hz0 hz1 hz2 rfl (by decide) _ _ _ rfl (row_chg HX.out.2.1 (by repeat' (first | refine Chg.setCell ?_ (fun h => absurd h (Nat.lt_irrefl _)) _ | refine Chg.alloc ?_ _ | refine chg_drewN ?_ _ | refine Chg.drew ?_ | exact Chg.refl _ _))) ⟨_, 0, none⟩ 1 1 [.int .u64 (kb : Int), .bool false, .bool true, .int .u64 0, .int .u64 (xb : Int)] rfl rfl (cells_newE _ _ (by simp [World.setCell, World.drewN]) _ _) (by intro u hu; simp at hu; rcases hu with rfl | rfl | rfl | rfl | rfl <;> rfl) (by unfold maxLen; have := HLN.out; omega) (by have := HLN.out; omega) (Nat.le_trans HX.out.2.2.size (Chg.size (F := fun _ => False) (by repeat' (first | refine Chg.setCell ?_ (fun h => absurd h (Nat.lt_irrefl _)) _ | refine Chg.alloc ?_ _ | refine chg_drewN ?_ _ | refine Chg.drew ?_ | exact Chg.refl _ _)))) ?_); intro v' w3 r1 r2 r3 r4; have R1 := keepH r1; have R2 := keepH (end_chg HX.out.2.2 HX.out.2.1 (by repeat' (first | refine Chg.setCell ?_ (fun h => absurd h (Nat.lt_irrefl _)) _ | refine Chg.alloc ?_ _ | refine chg_drewN ?_ _ | refine Chg.drew ?_ | exact Chg.refl _ _)) r2); clear r1 r2 r3 r4))
          go_roundw
          case rel => exact ⟨i, k + 1, pre ++ [(none, some (kb, xb))], by omega, by omega, by first | rfl | go_num, by first | rfl | go_num, keepH ⟨by rw [← HX.out.1, drop_of HLA.out, drop_of HLB.out, mrg_gt _ HT.out]; simp, by rw [diffX_add, if_pos (by simp [chOf, Ch.right]), chRow_add]; have := R1.out; simpa [chOf, Ch.cells] using this, R2.out⟩, by simp; omega⟩
          case measure => simp [intOf]; omega
      · skip
        obtain ⟨⟨ka, xa⟩, hxa⟩ : ∃ y, la[i]? = some y := ⟨la[i]'(by omega), List.getElem?_eq_getElem _⟩
        have HLA := keepH hxa
        obtain ⟨bka, offa, rfl, _, _, a0, a1⟩ := HAA.out.getB (below_trans HB2.out HX.out.2.2) i ka xa hxa
        have hba : bka < wr.heap.size := World.block_lt_of_cell? wr _ a0
        have qa : (i : Int) < (la.length : Int) := by omega
        clear hxa
        have qb : ¬ (k : Int) < (lb.length : Int) := by omega
        have qb2 : (lb.length : Int) ≤ (k : Int) := by omega
        go_wp2_with fail
        go_quiet (fail)
        go_wp2_with fail
        go_quiet (fail)
        go_wp2_with fail
        go_region
        go_wp2_with (first | (at_builtin; go_loud (refine wpList_append_own_at _ rfl _ _ 38 rfl W2.heap.size 89 i0 (.agg #[.int .u64 0, .bool false, .bool false, .int .u64 0, .int .u64 0]) 5 32 Try.underlying38 hi hz0 hz1 hz2 rfl (by decide) _ _ _ rfl (row_chg HX.out.2.1 (by repeat' (first | refine Chg.setCell ?_ (fun h => absurd h (Nat.lt_irrefl _)) _ | refine Chg.alloc ?_ _ | refine chg_drewN ?_ _ | refine Chg.drew ?_ | exact Chg.refl _ _))) ⟨_, 0, none⟩ 1 1 [.int .u64 (ka : Int), .bool true, .bool false, .int .u64 (xa : Int), .int .u64 0] rfl rfl (cells_newE _ _ (by simp [World.setCell, World.drewN]) _ _) (by intro u hu; simp at hu; rcases hu with rfl | rfl | rfl | rfl | rfl <;> rfl) (by unfold maxLen; have := HLN.out; omega) (by have := HLN.out; omega) (Nat.le_trans HX.out.2.2.size (Chg.size (F := fun _ => False) (by repeat' (first | refine Chg.setCell ?_ (fun h => absurd h (Nat.lt_irrefl _)) _ | refine Chg.alloc ?_ _ | refine chg_drewN ?_ _ | refine Chg.drew ?_ | exact Chg.refl _ _)))) ?_); intro v' w3 r1 r2 r3 r4; have R1 := keepH r1; have R2 := keepH (end_chg HX.out.2.2 HX.out.2.1 (by repeat' (first | refine Chg.setCell ?_ (fun h => absurd h (Nat.lt_irrefl _)) _ | refine Chg.alloc ?_ _ | refine chg_drewN ?_ _ | refine Chg.drew ?_ | exact Chg.refl _ _)) r2); clear r1 r2 r3 r4))
        go_roundw
        case rel => exact ⟨i + 1, k, pre ++ [(some (ka, xa), none)], by omega, by omega, by first | rfl | go_num, by first | rfl | go_num, keepH ⟨by rw [← HX.out.1, drop_of HLA.out, List.drop_eq_nil_of_le (show lb.length ≤ k by omega), mrg_left]; simp, by rw [diffX_add, if_pos (by simp [chOf, Ch.right]), chRow_add]; have := R1.out; simpa [chOf, Ch.cells] using this, R2.out⟩, by simp; omega⟩
        case measure => simp [intOf]; omega
    · by_cases hb : k < lb.length
      · skip
        obtain ⟨⟨kb, xb⟩, hxb⟩ : ∃ y, lb[k]? = some y := ⟨lb[k]'(by omega), List.getElem?_eq_getElem _⟩
        have HLB := keepH hxb
        obtain ⟨bkb, offb, rfl, _, _, b0, b1⟩ := HBB.out.getB (below_trans HB2.out HX.out.2.2) k kb xb hxb
        have hbb : bkb < wr.heap.size := World.block_lt_of_cell? wr _ b0
        have qb : (k : Int) < (lb.length : Int) := by omega
        clear hxb
        have qa : ¬ (i : Int) < (la.length : Int) := by omega
        have qa2 : (la.length : Int) ≤ (i : Int) := by omega
        go_wp2_with fail
        go_quiet (fail)
        go_wp2_with fail
        go_quiet (fail)
        go_wp2_with fail
        go_region
        go_wp2_with (first | (at_builtin; go_loud (refine wpList_append_own_at _ rfl _ _ 38 rfl W2.heap.size 89 i0 (.agg #[.int .u64 0, .bool false, .bool false, .int .u64 0, .int .u64 0]) 5 32 Try.underlying38 hi hz0 hz1 hz2 rfl (by decide) _ _ _ rfl (row_chg HX.out.2.1 (by repeat' (first | refine Chg.setCell ?_ (fun h => absurd h (Nat.lt_irrefl _)) _ | refine Chg.alloc ?_ _ | refine chg_drewN ?_ _ | refine Chg.drew ?_ | exact Chg.refl _ _))) ⟨_, 0, none⟩ 1 1 [.int .u64 (kb : Int), .bool false, .bool true, .int .u64 0, .int .u64 (xb : Int)] rfl rfl (cells_newE _ _ (by simp [World.setCell, World.drewN]) _ _) (by intro u hu; simp at hu; rcases hu with rfl | rfl | rfl | rfl | rfl <;> rfl) (by unfold maxLen; have := HLN.out; omega) (by have := HLN.out; omega) (Nat.le_trans HX.out.2.2.size (Chg.size (F := fun _ => False) (by repeat' (first | refine Chg.setCell ?_ (fun h => absurd h (Nat.lt_irrefl _)) _ | refine Chg.alloc ?_ _ | refine chg_drewN ?_ _ | refine Chg.drew ?_ | exact Chg.refl _ _)))) ?_); intro v' w3 r1 r2 r3 r4; have R1 := keepH r1; have R2 := keepH (end_chg HX.out.2.2 HX.out.2.1 (by repeat' (first | refine Chg.setCell ?_ (fun h => absurd h (Nat.lt_irrefl _)) _ | refine Chg.alloc ?_ _ | refine chg_drewN ?_ _ | refine Chg.drew ?_ | exact Chg.refl _ _)) r2); clear r1 r2 r3 r4))
        go_roundw
        case rel => exact ⟨i, k + 1, pre ++ [(none, some (kb, xb))], by omega, by omega, by first | rfl | go_num, by first | rfl | go_num, keepH ⟨by rw [← HX.out.1, drop_of HLB.out, List.drop_eq_nil_of_le (show la.length ≤ i by omega), mrg_right]; simp, by rw [diffX_add, if_pos (by simp [chOf, Ch.right]), chRow_add]; have := R1.out; simpa [chOf, Ch.cells] using this, R2.out⟩, by simp; omega⟩
        case measure => simp [intOf]; omega
      · have qa : ¬ (i : Int) < (la.length : Int) := by omega
        have qb : ¬ (k : Int) < (lb.length : Int) := by omega
        have HE : Hid (pre = mrg (fun y : Nat × Nat => y.1) la lb) := keepH (by
          have e := HX.out.1
          rw [List.drop_eq_nil_of_le (by omega), List.drop_eq_nil_of_le (by omega), mrg_nil, List.append_nil] at e
          exact e)
        go_wp2_with fail
        go_ret2
        refine ⟨⟨_, rfl, ?_⟩, below_trans HB2.out HX.out.2.2⟩
        have q := HX.out.2.1
        rw [HE.out] at q
        exact row_base q HB2.out.size
end Go.Proofs.Ytnhfpnhmdfgckaa
