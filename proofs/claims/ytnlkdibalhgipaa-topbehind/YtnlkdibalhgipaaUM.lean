/- Rows of numbers that are sorted, whatever their length: the same numbers. -/
import Derived.Test.YtnlkdibalhgipaaFr
import Derived.Deep.RegionHeld3
import Derived.Deep.Cut
import Derived.Deep.CutBlock
import Derived.Deep.DeepCutAuto
import Derived.Lib.Tables
import Derived.Laws.Closers25b
import Derived.Laws.Bits64b
namespace Go.Proofs.Ytnlkdibalhgipaa
open Go.RowKit
set_option linter.unusedVariables false

theorem Chg.p {W w w' : World} {p : Nat} (h : Chg (fun k => k = p) W w) (k : Chg (fun k => k = p) w w') : Chg (fun k => k = p) W w' := h.trans k (fun _ _ x => x) (fun _ _ x => x)
theorem Chg.pf {W w w' : World} {p : Nat} (h : Chg (fun k => k = p) W w) (k : Chg (fun _ => False) w w') : Chg (fun k => k = p) W w' := h.trans k (fun _ _ x => x) (fun _ _ x => x.elim)
theorem drewN_chg (W : World) (q : Nat) : Chg (fun _ => False) W (W.drewN q) := ⟨rfl, rfl, rfl, Nat.le_refl _, fun _ _ _ => rfl⟩
def u64V (x : Nat) : Value := .int .u64 (x : Int)
def Blk (W : World) (p : Nat) (t : TypeId) (l : List Value) : Prop := W.heap[p]? = some (.cells l.toArray t (0, 0))
theorem Blk.cell {W : World} {p : Nat} {t : TypeId} {l : List Value} (h : Blk W p t l) (i : Nat) : W.cell? ⟨p, i, none⟩ = l[i]? := by rw [cell_of h i]; simp
theorem Blk.free {W : World} {p : Nat} {t : TypeId} {l : List Value} (h : Blk W p t l) (i : Nat) : W.frozen? ⟨p, i, none⟩ = false := free_of h i
theorem Blk.set {W : World} {p : Nat} {t : TypeId} {l : List Value} (h : Blk W p t l) (i : Nat) (v : Value) : Blk (W.setCell ⟨p, i, none⟩ v) p t (l.set i v) := by
  have e := set_of h i v
  rw [List.setIfInBounds_toArray] at e
  exact e
theorem Blk.chg {W W' : World} {F : Nat → Prop} {p : Nat} {t : TypeId} {l : List Value} (h : Blk W p t l) (hc : Chg F W W') (hn : ¬ F p) : Blk W' p t l := (hc.block p (lt_of h) hn).trans h
theorem setP {W : World} {p i : Nat} (u : Value) : Chg (fun k => k = p) W (W.setCell ⟨p, i, none⟩ u) := (Chg.refl (fun k => k = p) W).setCell (p := ⟨p, i, none⟩) (fun _ => rfl) u
/-- A block that begins with these numbers. -/
def RowU (W : World) (g : Nat) (zs : List Nat) : Prop := ∃ rest, Blk W g 30 (zs.map u64V ++ rest)
theorem RowU.cell {W : World} {g : Nat} {zs : List Nat} (h : RowU W g zs) (i x : Nat) (hx : zs[i]? = some x) : W.cell? ⟨g, i, none⟩ = some (.int .u64 (x : Int)) := by
  obtain ⟨rest, h⟩ := h
  rw [h.cell, List.getElem?_append_left (by have := (List.getElem?_eq_some_iff.1 hx).1; simpa using this)]
  simp [hx, u64V]
theorem RowU.free {W : World} {g : Nat} {zs : List Nat} (h : RowU W g zs) (i : Nat) : W.frozen? ⟨g, i, none⟩ = false := by
  obtain ⟨rest, h⟩ := h
  exact h.free i
theorem RowU.chg {W W' : World} {F : Nat → Prop} {g : Nat} {zs : List Nat} (h : RowU W g zs) (hc : Chg F W W') (hn : ¬ F g) : RowU W' g zs := by
  obtain ⟨rest, h⟩ := h
  exact ⟨rest, h.chg hc hn⟩
theorem RowU.set {W : World} {g : Nat} {zs : List Nat} (h : RowU W g zs) (i x : Nat) (hi : i < zs.length) : RowU (W.setCell ⟨g, i, none⟩ (.int .u64 (x : Int))) g (zs.set i x) := by
  obtain ⟨rest, h⟩ := h
  refine ⟨rest, ?_⟩
  have e := h.set i (.int .u64 (x : Int))
  rw [List.set_append_left _ _ (by simpa using hi)] at e
  rw [List.map_set]
  exact e
set_option maxRecDepth 100000 in
theorem nan_u (x : Nat) (W : World) : Calls Try.prog 58 #[.int .u64 (x : Int)] W fun e W' => e = .returned (.bool false) ∧ W' = W := by
  have b : ((x : Int) != (x : Int)) = false := by simp
  go_enter Try.func58, Try.ntmps58
  go_wp2_with fail
  go_ret
  exact ⟨by simp, rfl⟩
set_option maxRecDepth 100000 in
theorem less_u (x y : Nat) (W : World) : Calls Try.prog 45 #[.int .u64 (x : Int), .int .u64 (y : Int)] W fun e W' => e = .returned (.bool (decide (x < y))) ∧ W' = W := by
  have d : decide ((x : Int) < (y : Int)) = decide (x < y) := by congr 1; exact propext ⟨fun h => by omega, fun h => by omega⟩
  go_enter Try.func45, Try.ntmps45
  go_wp2_with fail
  refine (nan_u x _).mono ?_
  rintro e w ⟨rfl, rfl⟩
  go_wp2_with fail
  go_ret
  exact ⟨by simp, rfl⟩
theorem swap_perm (zs : List Nat) (i j x y : Nat) (hx : zs[i]? = some x) (hy : zs[j]? = some y) : ((zs.set i y).set j x).Perm zs := by
  obtain ⟨hi, rfl⟩ := List.getElem?_eq_some_iff.1 hx
  obtain ⟨hj, rfl⟩ := List.getElem?_eq_some_iff.1 hy
  exact List.set_set_perm hi hj
/-- The same numbers, in a block that alone was changed. -/
def Same (W : World) (g : Nat) (zs : List Nat) (w : World) : Prop := ∃ zs' : List Nat, zs'.Perm zs ∧ RowU w g zs' ∧ Chg (fun k => k = g) W w
theorem Same.quiet {W w w' : World} {g : Nat} {zs : List Nat} (h : Same W g zs w) (c : Chg (fun _ => False) w w') : Same W g zs w' := by
  obtain ⟨zs', P, R, C⟩ := h
  exact ⟨zs', P, R.chg c (fun x => x), C.pf c⟩
theorem Same.refl {W : World} {g : Nat} {zs : List Nat} (h : RowU W g zs) : Same W g zs W := ⟨zs, List.Perm.refl _, h, Chg.refl _ _⟩
theorem Same.trans {W w w' : World} {g : Nat} {zs : List Nat} (h : Same W g zs w) (k : ∀ zs', zs'.length = zs.length → RowU w g zs' → Same w g zs' w') : Same W g zs w' := by
  obtain ⟨zs', P, R, C⟩ := h
  obtain ⟨zt, P2, R2, C2⟩ := k zs' P.length_eq R
  exact ⟨zt, P2.trans P, R2, C.p C2⟩
/-- Two cells, read. -/
theorem Same.two {W w : World} {g : Nat} {zs : List Nat} (h : Same W g zs w) {i j : Nat} (hi : i < zs.length) (hj : j < zs.length) :
    ∃ x y : Nat, ∀ w', Chg (fun _ => False) w w' → Hid (w'.cell? ⟨g, i, none⟩ = some (.int .u64 (x : Int)) ∧ w'.cell? ⟨g, j, none⟩ = some (.int .u64 (y : Int)) ∧ w'.frozen? ⟨g, i, none⟩ = false ∧ (∀ v, (w'.setCell ⟨g, i, none⟩ v).frozen? ⟨g, j, none⟩ = false) ∧ (i ≠ j → ∀ v, (w'.setCell ⟨g, i, none⟩ v).cell? ⟨g, j, none⟩ = some (.int .u64 (y : Int))) ∧ (i = j → ∀ v, (w'.setCell ⟨g, i, none⟩ v).cell? ⟨g, j, none⟩ = some v)
      ∧ Same W g zs ((w'.setCell ⟨g, i, none⟩ (.int .u64 (y : Int))).setCell ⟨g, j, none⟩ (.int .u64 (x : Int)))) := by
  obtain ⟨zs', P, R, C⟩ := h
  have hl := P.length_eq
  obtain ⟨x, hx⟩ : ∃ x, zs'[i]? = some x := ⟨_, List.getElem?_eq_getElem (by omega)⟩
  obtain ⟨y, hy⟩ : ∃ y, zs'[j]? = some y := ⟨_, List.getElem?_eq_getElem (by omega)⟩
  refine ⟨x, y, fun w' c => ?_⟩
  have R' := R.chg c (fun x => x)
  have fr : ∀ v, (w'.setCell ⟨g, i, none⟩ v).frozen? ⟨g, j, none⟩ = false := fun v => by
    obtain ⟨rest, B⟩ := R'
    exact (B.set i v).free j
  have so : i ≠ j → ∀ v, (w'.setCell ⟨g, i, none⟩ v).cell? ⟨g, j, none⟩ = some (.int .u64 (y : Int)) := fun ne v => by
    have q := R'.cell j y hy
    obtain ⟨rest, B⟩ := R'
    rw [(B.set i v).cell j, List.getElem?_set_ne ne, ← B.cell j]
    exact q
  have se : i = j → ∀ v, (w'.setCell ⟨g, i, none⟩ v).cell? ⟨g, j, none⟩ = some v := fun e v => by
    obtain ⟨rest, B⟩ := R'
    subst e
    rw [(B.set i v).cell i, List.getElem?_set_self (by simp; omega)]
  refine ⟨R'.cell i x hx, R'.cell j y hy, R'.free i, fr, so, se, _, (swap_perm zs' i j x y hx hy).trans P, (R'.set i y (by omega)).set j x (by rw [List.length_set]; omega), (C.pf c).p ((setP _).p (setP _))⟩
/-- Two cells that may be one. -/
theorem Same.any {W w : World} {g : Nat} {zs : List Nat} (h : Same W g zs w) {i j : Nat} (hi : i < zs.length) (hj : j < zs.length) :
    ∃ x y : Nat, ∀ w', Chg (fun _ => False) w w' → Hid (w'.cell? ⟨g, i, none⟩ = some (.int .u64 (x : Int)) ∧ w'.cell? ⟨g, j, none⟩ = some (.int .u64 (y : Int)) ∧ w'.frozen? ⟨g, i, none⟩ = false ∧ (∀ v, (w'.setCell ⟨g, i, none⟩ v).frozen? ⟨g, j, none⟩ = false) ∧ (∀ v, ∃ u, (w'.setCell ⟨g, i, none⟩ v).cell? ⟨g, j, none⟩ = some u)
      ∧ Same W g zs ((w'.setCell ⟨g, i, none⟩ (.int .u64 (y : Int))).setCell ⟨g, j, none⟩ (.int .u64 (x : Int)))) := by
  obtain ⟨x, y, h⟩ := h.two hi hj
  refine ⟨x, y, fun w' c => ?_⟩
  obtain ⟨k1, k2, k3, k4, k5, k6, k7⟩ : _ := (h w' c).out
  refine ⟨k1, k2, k3, k4, fun v => ?_, k7⟩
  by_cases e : i = j
  · exact ⟨_, k6 e v⟩
  · exact ⟨_, k5 e v⟩
end Go.Proofs.Ytnlkdibalhgipaa
/- Insertion sort over any part of a row: the same numbers. -/
namespace Go.Proofs.Ytnlkdibalhgipaa
open Go.RowKit
set_option linter.unusedVariables false

theorem less_is {x y : Nat} {b : Bool} (h : decide (x < y) = b) (W : World) : Calls Try.prog 45 #[.int .u64 (x : Int), .int .u64 (y : Int)] W fun e W' => e = .returned (.bool b) ∧ W' = W := by
  rw [← h]
  exact less_u x y W
set_option maxRecDepth 100000 in
set_option maxHeartbeats 4000000 in
theorem ins_g {W : World} {g c a b : Nat} {zs : List Nat} (hr : RowU W g zs) (hb : b ≤ zs.length) (hz : zs.length ≤ 4611686018427387903) (ha : a ≤ zs.length) :
    Calls Try.prog 39 #[.slice (some ⟨g, 0, none⟩) zs.length c, .int .i64 (a : Int), .int .i64 (b : Int)] W fun e W' => e = .returned (.tuple #[]) ∧ Same W g zs W' := by
  have HS := keepH (Same.refl hr)
  clear hr
  obtain ⟨n, hn⟩ : ∃ n, n = zs.length := ⟨_, rfl⟩
  rw [← hn] at hz hb ha ⊢
  have HN := keepH hn
  clear hn
  have wa : IntKind.i64.wrap ((a : Int) + 1) = ((a + 1 : Nat) : Int) := by rw [IntKind.wrap_i64]; omega
  go_enter Try.func39, Try.ntmps39
  go_wp2_with fail
  clear wa
  go_loopw [6] (fun s6 wr => ∃ i : Nat, a + 1 ≤ i ∧ i ≤ n + 1 ∧ s6 = .int .i64 (i : Int) ∧ Hid (Same W g zs wr)) (fun s6 _ => n + 2 - (intOf s6).toNat)
  case atStart => exact ⟨a + 1, by omega, by omega, by first | rfl | go_num, HS⟩
  case round =>
    obtain ⟨i, hi1, hi2, rfl, HI⟩ := hrel
    by_cases hin : i < b
    · have t1 : (i : Int) < (b : Int) := by omega
      have wi : IntKind.i64.wrap ((i : Int) + 1) = ((i + 1 : Nat) : Int) := by rw [IntKind.wrap_i64]; omega
      go_wp2_with fail
      go_loopw [7] (fun s7 wr => ∃ j : Nat, a ≤ j ∧ j ≤ i ∧ s7 = .int .i64 (j : Int) ∧ Hid (Same W g zs wr)) (fun s7 _ => (intOf s7).toNat)
      case atStart => exact ⟨i, by omega, by omega, rfl, HI⟩
      case round =>
        obtain ⟨j, hja, hj, rfl, HJ⟩ := hrel
        by_cases hj0 : j = a
        · subst hj0
          go_upto_region 4 with fail
          go_quiet (fail)
          obtain ⟨w3, hw3⟩ : ∃ w3, w3 = wr.drewN nq := ⟨_, rfl⟩
          have HJ3 : Hid (Same W g zs w3) := by rw [hw3]; exact HJ.out.quiet (drewN_chg wr nq)
          rw [← hw3]
          clear hw3 HJ
          go_wp2_with fail
          go_roundw
          case rel => exact ⟨i + 1, by omega, by omega, by first | rfl | go_num, HJ3⟩
          case measure => simp [intOf]; omega
        · obtain ⟨j0, hj00⟩ : ∃ j0, j = j0 + 1 := ⟨j - 1, by omega⟩
          obtain ⟨x, y, hT⟩ := HJ.out.two (i := j) (j := j0) (by rw [← HN.out]; omega) (by rw [← HN.out]; omega)
          have HT := keepH hT
          have cx := (hT wr (Chg.refl _ _)).out.1
          have cy := (hT wr (Chg.refl _ _)).out.2.1
          have b1 : j < n := by omega
          have b0 : j0 < n := by omega
          have t2 : (a : Int) < (j : Int) := by omega
          have t3 : a < j := by omega
          have t4 : decide (a < j) = true := decide_eq_true t3
          have w1 : IntKind.i64.wrap ((j : Int) - 1) = (j0 : Int) := by rw [IntKind.wrap_i64]; omega
          have HJ0 : Hid (j = j0 + 1 ∧ j ≤ i ∧ i < n ∧ a ≤ j0) := ⟨hj00, hj, by omega, by omega⟩
          have hne : j ≠ j0 := by omega
          clear hj00 hj0 hT
          cases hlt : decide (x < y) with
          | true =>
            have HLS := keepH (less_is hlt)
            clear hlt
            go_upto_region 4 with fail
            go_quiet (first | (go_at_call 45; refine (HLS.out _).mono ?_; rintro q r ⟨rfl, rfl⟩; exact ⟨rfl, _, rfl⟩))
            obtain ⟨w3, hw3⟩ : ∃ w3, w3 = wr.drewN nq := ⟨_, rfl⟩
            obtain ⟨k1, k2, k3, k4, k5, k6, k7⟩ : _ := (HT.out w3 (by rw [hw3]; exact drewN_chg wr nq)).out
            rw [← hw3]
            have k5 := k5 hne (.int .u64 (y : Int))
            have k4 := k4 (.int .u64 (y : Int))
            obtain ⟨w5, hw5⟩ : ∃ w5, w5 = ((w3.setCell ⟨g, j, none⟩ (.int .u64 (y : Int))).setCell ⟨g, j0, none⟩ (.int .u64 (x : Int))).drew := ⟨_, rfl⟩
            have HJ5 : Hid (Same W g zs w5) := by rw [hw5]; exact k7.quiet (Chg.refl _ _).drew
            clear hw3 k6 k7 cx cy HJ HT HLS hne
            go_upto_region 6 with fail
            go_region
            all_goals (
              rw [← hw5]
              clear hw5 k1 k2 k3 k4 k5
              go_wp2_with fail
              go_roundw
              case rel => exact ⟨j0, by have := HJ0.out; omega, by have := HJ0.out; omega, by first | rfl | go_num, HJ5⟩
              case measure => have := HJ0.out; simp [intOf]; omega)
          | false =>
            have HLS := keepH (less_is hlt)
            clear hlt
            go_upto_region 4 with fail
            go_quiet (first | (go_at_call 45; refine (HLS.out _).mono ?_; rintro q r ⟨rfl, rfl⟩; exact ⟨rfl, _, rfl⟩))
            obtain ⟨w3, hw3⟩ : ∃ w3, w3 = wr.drewN nq := ⟨_, rfl⟩
            have HJ3 : Hid (Same W g zs w3) := by rw [hw3]; exact HJ.out.quiet (drewN_chg wr nq)
            rw [← hw3]
            clear hw3 HJ cx cy HT HLS
            go_wp2_with fail
            go_roundw
            case rel => exact ⟨i + 1, by omega, by omega, by first | rfl | go_num, HJ3⟩
            case measure => simp [intOf]; omega
    · have t1 : ¬ (i : Int) < (b : Int) := by omega
      go_wp2_with fail
      go_end0
      exact ⟨rfl, HI.out⟩
end Go.Proofs.Ytnlkdibalhgipaa
/- A row turned round, and heaps in it: the same numbers. -/
namespace Go.Proofs.Ytnlkdibalhgipaa
open Go.RowKit
set_option linter.unusedVariables false

set_option maxRecDepth 100000 in
set_option maxHeartbeats 4000000 in
theorem rev_g {W : World} {g c a b : Nat} {zs : List Nat} (hr : RowU W g zs) (hb : b ≤ zs.length) (hz : zs.length ≤ 1152921504606846976) (ha : a < b) :
    Calls Try.prog 43 #[.slice (some ⟨g, 0, none⟩) zs.length c, .int .i64 (a : Int), .int .i64 (b : Int)] W fun e W' => e = .returned (.tuple #[]) ∧ Same W g zs W' := by
  have HS := keepH (Same.refl hr)
  clear hr
  obtain ⟨n, hn⟩ : ∃ n, n = zs.length := ⟨_, rfl⟩
  rw [← hn] at hz hb ⊢
  have HN := keepH hn
  clear hn
  obtain ⟨b1, hb1⟩ : ∃ b1, b = b1 + 1 := ⟨b - 1, by omega⟩
  have wb : IntKind.i64.wrap ((b : Int) - 1) = (b1 : Int) := by rw [IntKind.wrap_i64]; omega
  have HB : Hid (b = b1 + 1) := hb1
  clear hb1
  go_enter Try.func43, Try.ntmps43
  go_wp2_with fail
  clear wb
  go_loopw [6, 7] (fun s6 s7 wr => ∃ i j : Nat, i ≤ j + 1 ∧ j < n ∧ s6 = .int .i64 (i : Int) ∧ s7 = .int .i64 (j : Int) ∧ Hid (Same W g zs wr)) (fun _ s7 _ => (intOf s7).toNat)
  case atStart => exact ⟨a, b1, by have := HB.out; omega, by have := HB.out; omega, rfl, rfl, HS⟩
  case round =>
    obtain ⟨i, j, hij, hjn, rfl, rfl, HI⟩ := hrel
    by_cases hin : i < j
    · have t1 : (i : Int) < (j : Int) := by omega
      obtain ⟨j0, hj0⟩ : ∃ j0, j = j0 + 1 := ⟨j - 1, by omega⟩
      have wi : IntKind.i64.wrap ((i : Int) + 1) = ((i + 1 : Nat) : Int) := by rw [IntKind.wrap_i64]; omega
      have wj : IntKind.i64.wrap ((j : Int) - 1) = (j0 : Int) := by rw [IntKind.wrap_i64]; omega
      have b1' : i < n := by omega
      have hne : i ≠ j := by omega
      have HJ0 : Hid (j = j0 + 1) := hj0
      clear hj0
      obtain ⟨x, y, hT⟩ := HI.out.two (i := i) (j := j) (by rw [← HN.out]; omega) (by rw [← HN.out]; omega)
      obtain ⟨k1, k2, k3, k4, k5, k6, k7⟩ : _ := (hT wr (Chg.refl _ _)).out
      have k4 := k4 (.int .u64 (y : Int))
      have k5 := k5 hne (.int .u64 (y : Int))
      obtain ⟨w9, hw9⟩ : ∃ w9, w9 = ((wr.setCell ⟨g, i, none⟩ (.int .u64 (y : Int))).setCell ⟨g, j, none⟩ (.int .u64 (x : Int))).drew := ⟨_, rfl⟩
      have H9 : Hid (Same W g zs w9) := by rw [hw9]; exact k7.quiet (Chg.refl _ _).drew
      clear hT k6 k7 HI 
      go_upto_region 3 with fail
      go_region
      all_goals (
        rw [← hw9]
        clear hw9 k1 k2 k3 k4 k5
        go_wp2_with fail
        go_roundw
        case rel => exact ⟨i + 1, j0, by have := HJ0.out; omega, by have := HJ0.out; omega, by first | rfl | go_num, by first | rfl | go_num, H9⟩
        case measure => have := HJ0.out; simp [intOf]; omega)
    · have t1 : ¬ (i : Int) < (j : Int) := by omega
      go_wp2_with fail
      go_end0
      exact ⟨rfl, HI.out⟩
set_option maxRecDepth 100000 in
set_option maxHeartbeats 8000000 in
theorem sift_g {W : World} {g c lo hi first : Nat} {zs : List Nat} (hr : RowU W g zs) (hb : first + hi ≤ zs.length) (hz : zs.length ≤ 1152921504606846976) (hlo : lo ≤ 1152921504606846976) :
    Calls Try.prog 59 #[.slice (some ⟨g, 0, none⟩) zs.length c, .int .i64 (lo : Int), .int .i64 (hi : Int), .int .i64 (first : Int)] W fun e W' => e = .returned (.tuple #[]) ∧ Same W g zs W' := by
  have HS := keepH (Same.refl hr)
  clear hr
  obtain ⟨n, hn⟩ : ∃ n, n = zs.length := ⟨_, rfl⟩
  rw [← hn] at hz hb ⊢
  have HN := keepH hn
  clear hn
  go_enter Try.func59, Try.ntmps59
  go_wp2_with fail
  go_loopw [8] (fun s8 wr => ∃ root : Nat, root ≤ 1152921504606846976 ∧ s8 = .int .i64 (root : Int) ∧ Hid (Same W g zs wr)) (fun s8 _ => hi - (intOf s8).toNat)
  case atStart => exact ⟨lo, hlo, rfl, HS⟩
  case round =>
    obtain ⟨root, hroot, rfl, HI⟩ := hrel
    obtain ⟨c0, hc0⟩ : ∃ c0, c0 = 2 * root := ⟨_, rfl⟩
    obtain ⟨ch, hch⟩ : ∃ ch, ch = c0 + 1 := ⟨_, rfl⟩
    have w0 : IntKind.i64.wrap (2 * (root : Int)) = (c0 : Int) := by rw [IntKind.wrap_i64]; omega
    have w1 : IntKind.i64.wrap ((c0 : Int) + 1) = (ch : Int) := by rw [IntKind.wrap_i64]; omega
    by_cases hc : hi ≤ ch
    · have t1 : (hi : Int) ≤ (ch : Int) := by omega
      clear hc0 hch
      go_wp2_with fail
      go_end0
      exact ⟨rfl, HI.out⟩
    · have t1 : ¬ (hi : Int) ≤ (ch : Int) := by omega
      obtain ⟨c1, hc1⟩ : ∃ c1, c1 = ch + 1 := ⟨_, rfl⟩
      have w2 : IntKind.i64.wrap ((ch : Int) + 1) = (c1 : Int) := by rw [IntKind.wrap_i64]; omega
      by_cases hd : c1 < hi
      · have t2 : (c1 : Int) < (hi : Int) := by omega
        obtain ⟨p, hp⟩ : ∃ p, p = first + ch := ⟨_, rfl⟩
        obtain ⟨p1, hp1⟩ : ∃ p1, p1 = p + 1 := ⟨_, rfl⟩
        have wp1 : IntKind.i64.wrap ((first : Int) + (ch : Int)) = (p : Int) := by rw [IntKind.wrap_i64]; omega
        have wp2 : IntKind.i64.wrap ((p : Int) + 1) = (p1 : Int) := by rw [IntKind.wrap_i64]; omega
        have pn : p < n := by omega
        have p1n : p1 < n := by omega
        obtain ⟨x, y, hT⟩ := HI.out.two (i := p) (j := p1) (by rw [← HN.out]; omega) (by rw [← HN.out]; omega)
        have cx := (hT wr (Chg.refl _ _)).out.1
        have cy := (hT wr (Chg.refl _ _)).out.2.1
        clear hT hp hp1
        cases hlt : decide (x < y) with
        | true =>
          have HLS := keepH (less_is hlt)
          have HK : Hid (root < c1 ∧ c1 < hi ∧ c1 ≤ 1152921504606846976) := ⟨by omega, hd, by omega⟩
          have ne1 : root < c1 := by omega
          clear hlt hc0 hch hc1
          go_upto_region 3 with fail
          go_quiet (first | (go_at_call 45; refine (HLS.out _).mono ?_; rintro q r ⟨rfl, rfl⟩; exact ⟨rfl, _, rfl⟩))
          obtain ⟨w3, hw3⟩ : ∃ z : World, z = wr.drewN nq := ⟨_, rfl⟩
          have Hw3 : Hid (Same W g zs w3) := by rw [hw3]; exact HI.out.quiet (drewN_chg wr nq)
          rw [← hw3]
          clear hw3 HI cx cy HLS wp1 wp2 pn p1n
          obtain ⟨r, hr⟩ : ∃ r, r = first + root := ⟨_, rfl⟩
          obtain ⟨q, hq⟩ : ∃ q, q = first + c1 := ⟨_, rfl⟩
          have wr1 : IntKind.i64.wrap ((first : Int) + (root : Int)) = (r : Int) := by rw [IntKind.wrap_i64]; omega
          have wq1 : IntKind.i64.wrap ((first : Int) + (c1 : Int)) = (q : Int) := by rw [IntKind.wrap_i64]; omega
          have rn : r < n := by omega
          have qn : q < n := by omega
          have rq : r ≠ q := by omega
          have HRQ : Hid (r = first + root ∧ q = first + c1) := ⟨hr, hq⟩
          clear hr hq
          obtain ⟨x, y, hT⟩ := Hw3.out.two (i := r) (j := q) (by rw [← HN.out]; omega) (by rw [← HN.out]; omega)
          have cx := (hT w3 (Chg.refl _ _)).out.1
          have cy := (hT w3 (Chg.refl _ _)).out.2.1
          clear hT
          cases hlt : decide (x < y) with
          | false =>
            have HLS := keepH (less_is hlt)
            clear hlt
            go_upto_region 5 with fail
            go_quiet (first | (go_at_call 45; refine (HLS.out _).mono ?_; rintro q r ⟨rfl, rfl⟩; exact ⟨rfl, _, rfl⟩))
            obtain ⟨w5, hw5⟩ : ∃ z : World, z = w3.drewN nq := ⟨_, rfl⟩
            have Hw5 : Hid (Same W g zs w5) := by rw [hw5]; exact Hw3.out.quiet (drewN_chg w3 nq)
            rw [← hw5]
            clear hw5 Hw3 cx cy HLS
            go_wp2_with fail
            exact bodyPost_ret (results_none rfl _ _ _) rfl ⟨rfl, Hw5.out⟩
          | true =>
            have HLS := keepH (less_is hlt)
            clear hlt
            go_upto_region 5 with fail
            go_quiet (first | (go_at_call 45; refine (HLS.out _).mono ?_; rintro q r ⟨rfl, rfl⟩; exact ⟨rfl, _, rfl⟩))
            obtain ⟨w5, hw5⟩ : ∃ z : World, z = w3.drewN nq := ⟨_, rfl⟩
            have Hw5 : Hid (Same W g zs w5) := by rw [hw5]; exact Hw3.out.quiet (drewN_chg w3 nq)
            rw [← hw5]
            clear hw5 Hw3 cx cy HLS
            obtain ⟨x, y, hT⟩ := Hw5.out.two (i := r) (j := q) (by rw [← HN.out]; omega) (by rw [← HN.out]; omega)
            obtain ⟨k1, k2, k3, k4, k5, k6, k7⟩ : _ := (hT w5 (Chg.refl _ _)).out
            have k4 := k4 (.int .u64 (y : Int))
            have k5 := k5 rq (.int .u64 (y : Int))
            obtain ⟨w9, hw9⟩ : ∃ w9, w9 = ((w5.setCell ⟨g, r, none⟩ (.int .u64 (y : Int))).setCell ⟨g, q, none⟩ (.int .u64 (x : Int))).drew := ⟨_, rfl⟩
            have H9 : Hid (Same W g zs w9) := by rw [hw9]; exact k7.quiet (Chg.refl _ _).drew
            clear hT k6 k7 Hw5 
            go_upto_region 6 with fail
            go_region
            all_goals (
              rw [← hw9]
              clear hw9 k1 k2 k3 k4 k5
              go_wp2_with fail
              go_roundw
              case rel => exact ⟨c1, by have := HK.out; omega, by first | rfl | go_num, H9⟩
              case measure => have := HK.out; simp [intOf]; omega)
        | false =>
          have HLS := keepH (less_is hlt)
          have HK : Hid (root < ch ∧ ch < hi ∧ ch ≤ 1152921504606846976) := ⟨by omega, by omega, by omega⟩
          have ne1 : root < ch := by omega
          clear hlt hc0 hch hc1
          go_upto_region 3 with fail
          go_quiet (first | (go_at_call 45; refine (HLS.out _).mono ?_; rintro q r ⟨rfl, rfl⟩; exact ⟨rfl, _, rfl⟩))
          obtain ⟨w3, hw3⟩ : ∃ z : World, z = wr.drewN nq := ⟨_, rfl⟩
          have Hw3 : Hid (Same W g zs w3) := by rw [hw3]; exact HI.out.quiet (drewN_chg wr nq)
          rw [← hw3]
          clear hw3 HI cx cy HLS wp1 wp2 pn p1n
          obtain ⟨r, hr⟩ : ∃ r, r = first + root := ⟨_, rfl⟩
          obtain ⟨q, hq⟩ : ∃ q, q = first + ch := ⟨_, rfl⟩
          have wr1 : IntKind.i64.wrap ((first : Int) + (root : Int)) = (r : Int) := by rw [IntKind.wrap_i64]; omega
          have wq1 : IntKind.i64.wrap ((first : Int) + (ch : Int)) = (q : Int) := by rw [IntKind.wrap_i64]; omega
          have rn : r < n := by omega
          have qn : q < n := by omega
          have rq : r ≠ q := by omega
          have HRQ : Hid (r = first + root ∧ q = first + ch) := ⟨hr, hq⟩
          clear hr hq
          obtain ⟨x, y, hT⟩ := Hw3.out.two (i := r) (j := q) (by rw [← HN.out]; omega) (by rw [← HN.out]; omega)
          have cx := (hT w3 (Chg.refl _ _)).out.1
          have cy := (hT w3 (Chg.refl _ _)).out.2.1
          clear hT
          cases hlt : decide (x < y) with
          | false =>
            have HLS := keepH (less_is hlt)
            clear hlt
            go_upto_region 5 with fail
            go_quiet (first | (go_at_call 45; refine (HLS.out _).mono ?_; rintro q r ⟨rfl, rfl⟩; exact ⟨rfl, _, rfl⟩))
            obtain ⟨w5, hw5⟩ : ∃ z : World, z = w3.drewN nq := ⟨_, rfl⟩
            have Hw5 : Hid (Same W g zs w5) := by rw [hw5]; exact Hw3.out.quiet (drewN_chg w3 nq)
            rw [← hw5]
            clear hw5 Hw3 cx cy HLS
            go_wp2_with fail
            exact bodyPost_ret (results_none rfl _ _ _) rfl ⟨rfl, Hw5.out⟩
          | true =>
            have HLS := keepH (less_is hlt)
            clear hlt
            go_upto_region 5 with fail
            go_quiet (first | (go_at_call 45; refine (HLS.out _).mono ?_; rintro q r ⟨rfl, rfl⟩; exact ⟨rfl, _, rfl⟩))
            obtain ⟨w5, hw5⟩ : ∃ z : World, z = w3.drewN nq := ⟨_, rfl⟩
            have Hw5 : Hid (Same W g zs w5) := by rw [hw5]; exact Hw3.out.quiet (drewN_chg w3 nq)
            rw [← hw5]
            clear hw5 Hw3 cx cy HLS
            obtain ⟨x, y, hT⟩ := Hw5.out.two (i := r) (j := q) (by rw [← HN.out]; omega) (by rw [← HN.out]; omega)
            obtain ⟨k1, k2, k3, k4, k5, k6, k7⟩ : _ := (hT w5 (Chg.refl _ _)).out
            have k4 := k4 (.int .u64 (y : Int))
            have k5 := k5 rq (.int .u64 (y : Int))
            obtain ⟨w9, hw9⟩ : ∃ w9, w9 = ((w5.setCell ⟨g, r, none⟩ (.int .u64 (y : Int))).setCell ⟨g, q, none⟩ (.int .u64 (x : Int))).drew := ⟨_, rfl⟩
            have H9 : Hid (Same W g zs w9) := by rw [hw9]; exact k7.quiet (Chg.refl _ _).drew
            clear hT k6 k7 Hw5 
            go_upto_region 6 with fail
            go_region
            all_goals (
              rw [← hw9]
              clear hw9 k1 k2 k3 k4 k5
              go_wp2_with fail
              go_roundw
              case rel => exact ⟨ch, by have := HK.out; omega, by first | rfl | go_num, H9⟩
              case measure => have := HK.out; simp [intOf]; omega)
      · have t2 : ¬ (c1 : Int) < (hi : Int) := by omega
        have HK : Hid (root < ch ∧ ch < hi ∧ ch ≤ 1152921504606846976) := ⟨by omega, by omega, by omega⟩
        have ne1 : root < ch := by omega
        clear hc0 hch hc1
        go_upto_region 3 with fail
        go_quiet (fail)
        obtain ⟨w3, hw3⟩ : ∃ z : World, z = wr.drewN nq := ⟨_, rfl⟩
        have Hw3 : Hid (Same W g zs w3) := by rw [hw3]; exact HI.out.quiet (drewN_chg wr nq)
        rw [← hw3]
        clear hw3 HI
        obtain ⟨r, hr⟩ : ∃ r, r = first + root := ⟨_, rfl⟩
        obtain ⟨q, hq⟩ : ∃ q, q = first + ch := ⟨_, rfl⟩
        have wr1 : IntKind.i64.wrap ((first : Int) + (root : Int)) = (r : Int) := by rw [IntKind.wrap_i64]; omega
        have wq1 : IntKind.i64.wrap ((first : Int) + (ch : Int)) = (q : Int) := by rw [IntKind.wrap_i64]; omega
        have rn : r < n := by omega
        have qn : q < n := by omega
        have rq : r ≠ q := by omega
        have HRQ : Hid (r = first + root ∧ q = first + ch) := ⟨hr, hq⟩
        clear hr hq
        obtain ⟨x, y, hT⟩ := Hw3.out.two (i := r) (j := q) (by rw [← HN.out]; omega) (by rw [← HN.out]; omega)
        have cx := (hT w3 (Chg.refl _ _)).out.1
        have cy := (hT w3 (Chg.refl _ _)).out.2.1
        clear hT
        cases hlt : decide (x < y) with
        | false =>
          have HLS := keepH (less_is hlt)
          clear hlt
          go_upto_region 5 with fail
          go_quiet (first | (go_at_call 45; refine (HLS.out _).mono ?_; rintro q r ⟨rfl, rfl⟩; exact ⟨rfl, _, rfl⟩))
          obtain ⟨w5, hw5⟩ : ∃ z : World, z = w3.drewN nq := ⟨_, rfl⟩
          have Hw5 : Hid (Same W g zs w5) := by rw [hw5]; exact Hw3.out.quiet (drewN_chg w3 nq)
          rw [← hw5]
          clear hw5 Hw3 cx cy HLS
          go_wp2_with fail
          exact bodyPost_ret (results_none rfl _ _ _) rfl ⟨rfl, Hw5.out⟩
        | true =>
          have HLS := keepH (less_is hlt)
          clear hlt
          go_upto_region 5 with fail
          go_quiet (first | (go_at_call 45; refine (HLS.out _).mono ?_; rintro q r ⟨rfl, rfl⟩; exact ⟨rfl, _, rfl⟩))
          obtain ⟨w5, hw5⟩ : ∃ z : World, z = w3.drewN nq := ⟨_, rfl⟩
          have Hw5 : Hid (Same W g zs w5) := by rw [hw5]; exact Hw3.out.quiet (drewN_chg w3 nq)
          rw [← hw5]
          clear hw5 Hw3 cx cy HLS
          obtain ⟨x, y, hT⟩ := Hw5.out.two (i := r) (j := q) (by rw [← HN.out]; omega) (by rw [← HN.out]; omega)
          obtain ⟨k1, k2, k3, k4, k5, k6, k7⟩ : _ := (hT w5 (Chg.refl _ _)).out
          have k4 := k4 (.int .u64 (y : Int))
          have k5 := k5 rq (.int .u64 (y : Int))
          obtain ⟨w9, hw9⟩ : ∃ w9, w9 = ((w5.setCell ⟨g, r, none⟩ (.int .u64 (y : Int))).setCell ⟨g, q, none⟩ (.int .u64 (x : Int))).drew := ⟨_, rfl⟩
          have H9 : Hid (Same W g zs w9) := by rw [hw9]; exact k7.quiet (Chg.refl _ _).drew
          clear hT k6 k7 Hw5 
          go_upto_region 6 with fail
          go_region
          all_goals (
            rw [← hw9]
            clear hw9 k1 k2 k3 k4 k5
            go_wp2_with fail
            go_roundw
            case rel => exact ⟨ch, by have := HK.out; omega, by first | rfl | go_num, H9⟩
            case measure => have := HK.out; simp [intOf]; omega)
end Go.Proofs.Ytnlkdibalhgipaa
/- Heap sort: the same numbers. -/
namespace Go.Proofs.Ytnlkdibalhgipaa
open Go.RowKit
set_option linter.unusedVariables false

theorem Same.call {W w : World} {g : Nat} {zs : List Nat} (h : Same W g zs w) {f : Nat} {av : Array Value} {v : Ending} (k : ∀ zs' : List Nat, zs'.length = zs.length → RowU w g zs' → Calls Try.prog f av w fun e w' => e = v ∧ Same w g zs' w') : Calls Try.prog f av w fun e w' => e = v ∧ Same W g zs w' := by
  obtain ⟨zs', P, R, C⟩ := h
  refine (k zs' P.length_eq R).mono ?_
  rintro e w' ⟨rfl, zt, P2, R2, C2⟩
  exact ⟨rfl, zt, P2.trans P, R2, C.p C2⟩
theorem sift_s {W w : World} {g c lo hi first n : Nat} {zs : List Nat} (h : Same W g zs w) (hn : n = zs.length) (hb : first + hi ≤ n) (hz : n ≤ 1152921504606846976) (hlo : lo ≤ 1152921504606846976) :
    Calls Try.prog 59 #[.slice (some ⟨g, 0, none⟩) n c, .int .i64 (lo : Int), .int .i64 (hi : Int), .int .i64 (first : Int)] w fun e W' => e = .returned (.tuple #[]) ∧ Same W g zs W' :=
  h.call fun zs' hl R => by
    have e : n = zs'.length := by omega
    rw [e] at hb hz ⊢
    exact sift_g R hb hz hlo
set_option maxRecDepth 100000 in
set_option maxHeartbeats 8000000 in
theorem heap_g {W : World} {g c a b : Nat} {zs : List Nat} (hr : RowU W g zs) (hb : b ≤ zs.length) (hz : zs.length ≤ 1152921504606846976) (ha : a < b) :
    Calls Try.prog 40 #[.slice (some ⟨g, 0, none⟩) zs.length c, .int .i64 (a : Int), .int .i64 (b : Int)] W fun e W' => e = .returned (.tuple #[]) ∧ Same W g zs W' := by
  have HS := keepH (Same.refl hr)
  clear hr
  obtain ⟨n, hn⟩ : ∃ n, n = zs.length := ⟨_, rfl⟩
  rw [← hn] at hz hb ⊢
  have HN := keepH hn
  clear hn
  obtain ⟨hi, hhi⟩ : ∃ hi, hi = b - a := ⟨_, rfl⟩
  obtain ⟨h1, hh1⟩ : ∃ h1, hi = h1 + 1 := ⟨hi - 1, by omega⟩
  have w0 : IntKind.i64.wrap ((b : Int) - (a : Int)) = (hi : Int) := by rw [IntKind.wrap_i64]; omega
  have w1 : IntKind.i64.wrap ((hi : Int) - 1) = (h1 : Int) := by rw [IntKind.wrap_i64]; omega
  obtain ⟨h2, hh2⟩ : ∃ h2, h2 = h1 / 2 := ⟨_, rfl⟩
  have d1 : ((h1 : Int).tdiv 2) = (h2 : Int) := by rw [Int.tdiv_eq_ediv_of_nonneg (by omega)]; omega
  have d2 : ((h1 : Int) / 2) = (h2 : Int) := by omega
  have d3 : IntKind.i64.wrap (h2 : Int) = (h2 : Int) := by rw [IntKind.wrap_i64]; omega
  have HH : Hid (hi = b - a ∧ hi = h1 + 1 ∧ h2 ≤ n) := ⟨hhi, hh1, by omega⟩
  have hfb : a + hi ≤ n := by omega
  have h1n : h1 < n := by omega
  clear hhi hh1 hh2
  go_enter Try.func40, Try.ntmps40
  go_wp2_with fail
  clear w0 d1 d2 d3
  go_loopw [9] (fun s9 wr => ∃ z : Int, -1 ≤ z ∧ z ≤ n ∧ s9 = .int .i64 z ∧ Hid (Same W g zs wr)) (fun s9 _ => ((intOf s9) + 1).toNat)
  case atStart => exact ⟨h2, by omega, by have := HH.out; omega, by first | rfl | go_num, HS⟩
  case round =>
    obtain ⟨z, hz1, hz2, rfl, HI⟩ := hrel
    by_cases hz0 : 0 ≤ z
    · obtain ⟨i, rfl⟩ : ∃ i : Nat, z = (i : Int) := ⟨z.toNat, by omega⟩
      have t1 : (0 : Int) ≤ (i : Int) := by omega
      have wi : IntKind.i64.wrap ((i : Int) - 1) = (i : Int) - 1 := by rw [IntKind.wrap_i64]; omega
      go_wp2_with fail
      refine (sift_s HI.out HN.out hfb hz (by omega)).mono ?_
      rintro e w5 ⟨rfl, S5⟩
      have H5 := keepH S5
      clear S5
      go_wp2_with fail
      go_roundw
      case rel => exact ⟨(i : Int) - 1, by omega, by omega, by first | rfl | go_num, H5⟩
      case measure => simp [intOf]
    · have t1 : ¬ (0 : Int) ≤ z := hz0
      go_wp2_with fail
      obtain ⟨wb, hwb⟩ : ∃ wb : World, wb = wr := ⟨_, rfl⟩
      rw [← hwb] at HI ⊢
      clear hwb
      go_loopw [10] (fun s10 wr => ∃ z : Int, -1 ≤ z ∧ z ≤ h1 ∧ s10 = .int .i64 z ∧ Hid (Same W g zs wr)) (fun s10 _ => ((intOf s10) + 1).toNat)
      case atStart => exact ⟨h1, by omega, by omega, by first | rfl | go_num, HI⟩
      case round =>
        obtain ⟨z, hy1, hy2, rfl, HJ⟩ := hrel
        by_cases hy0 : 0 ≤ z
        · obtain ⟨i, rfl⟩ : ∃ i : Nat, z = (i : Int) := ⟨z.toNat, by omega⟩
          have t2 : (0 : Int) ≤ (i : Int) := by omega
          have wi : IntKind.i64.wrap ((i : Int) - 1) = (i : Int) - 1 := by rw [IntKind.wrap_i64]; omega
          obtain ⟨q, hq⟩ : ∃ q, q = a + i := ⟨_, rfl⟩
          have wq : IntKind.i64.wrap ((a : Int) + (i : Int)) = (q : Int) := by rw [IntKind.wrap_i64]; omega
          have an : a < n := by omega
          have qn : q < n := by have := HH.out; omega
          have hib : a + i ≤ n := by have := HH.out; omega
          by_cases hi0 : i = 0
          · have heq : a = q := by omega
            have HEQ := keepH heq
            clear hi0 hq heq
            obtain ⟨x, y, hT⟩ := HJ.out.two (i := a) (j := q) (by rw [← HN.out]; omega) (by rw [← HN.out]; omega)
            obtain ⟨k1, k2, k3, k4, k5, k6, k7⟩ : _ := (hT wr (Chg.refl _ _)).out
            have k4 := k4 (.int .u64 (y : Int))
            have k5 := k6 HEQ.out (.int .u64 (y : Int))
            obtain ⟨w9, hw9⟩ : ∃ w9, w9 = ((wr.setCell ⟨g, a, none⟩ (.int .u64 (y : Int))).setCell ⟨g, q, none⟩ (.int .u64 (x : Int))).drew := ⟨_, rfl⟩
            have H9 : Hid (Same W g zs w9) := by rw [hw9]; exact k7.quiet (Chg.refl _ _).drew
            clear hT k6 k7 HJ 
            go_upto_region 10 with fail
            go_region
            all_goals (
              rw [← hw9]
              clear hw9 k1 k2 k3 k4 k5
              go_wp2_with fail
              refine (sift_s (hi := i) (lo := 0) H9.out HN.out hib hz (by omega)).mono ?_
              rintro e w10 ⟨rfl, S10⟩
              have H10 := keepH S10
              clear S10
              go_wp2_with fail
              go_roundw
              case rel => exact ⟨(i : Int) - 1, by omega, by omega, by first | rfl | go_num, H10⟩
              case measure => simp [intOf])
          · have hne : a ≠ q := by omega
            clear hi0 hq
            obtain ⟨x, y, hT⟩ := HJ.out.two (i := a) (j := q) (by rw [← HN.out]; omega) (by rw [← HN.out]; omega)
            obtain ⟨k1, k2, k3, k4, k5, k6, k7⟩ : _ := (hT wr (Chg.refl _ _)).out
            have k4 := k4 (.int .u64 (y : Int))
            have k5 := k5 hne (.int .u64 (y : Int))
            obtain ⟨w9, hw9⟩ : ∃ w9, w9 = ((wr.setCell ⟨g, a, none⟩ (.int .u64 (y : Int))).setCell ⟨g, q, none⟩ (.int .u64 (x : Int))).drew := ⟨_, rfl⟩
            have H9 : Hid (Same W g zs w9) := by rw [hw9]; exact k7.quiet (Chg.refl _ _).drew
            clear hT k6 k7 HJ 
            go_upto_region 10 with fail
            go_region
            all_goals (
              rw [← hw9]
              clear hw9 k1 k2 k3 k4 k5
              go_wp2_with fail
              refine (sift_s (hi := i) (lo := 0) H9.out HN.out hib hz (by omega)).mono ?_
              rintro e w10 ⟨rfl, S10⟩
              have H10 := keepH S10
              clear S10
              go_wp2_with fail
              go_roundw
              case rel => exact ⟨(i : Int) - 1, by omega, by omega, by first | rfl | go_num, H10⟩
              case measure => simp [intOf])
        · have t2 : ¬ (0 : Int) ≤ z := hy0
          go_wp2_with fail
          go_end0
          exact ⟨rfl, HJ.out⟩
end Go.Proofs.Ytnlkdibalhgipaa
/- Parted by a pivot: the same numbers. -/
namespace Go.Proofs.Ytnlkdibalhgipaa
open Go.RowKit
set_option linter.unusedVariables false

set_option maxRecDepth 100000 in
set_option maxHeartbeats 16000000 in
theorem peq_g {W : World} {g c a b pv : Nat} {zs : List Nat} (hr : RowU W g zs) (hb : b ≤ zs.length) (hz : zs.length ≤ 1152921504606846976) (ha : a < b) (hp : pv < b) (hpa : a ≤ pv) :
    Calls Try.prog 46 #[.slice (some ⟨g, 0, none⟩) zs.length c, .int .i64 (a : Int), .int .i64 (b : Int), .int .i64 (pv : Int)] W fun e W' => (∃ m : Nat, e = .returned (.int .i64 (m : Int)) ∧ a < m ∧ m ≤ b) ∧ Same W g zs W' := by
  have HS := keepH (Same.refl hr)
  clear hr
  obtain ⟨n, hn⟩ : ∃ n, n = zs.length := ⟨_, rfl⟩
  rw [← hn] at hz hb ⊢
  have HN := keepH hn
  clear hn
  obtain ⟨b1, hb1⟩ : ∃ b1, b = b1 + 1 := ⟨b - 1, by omega⟩
  have wb : IntKind.i64.wrap ((b : Int) - 1) = (b1 : Int) := by rw [IntKind.wrap_i64]; omega
  have wa : IntKind.i64.wrap ((a : Int) + 1) = ((a + 1 : Nat) : Int) := by rw [IntKind.wrap_i64]; omega
  have hbb : b1 + 1 = b := by omega
  have HBB : Hid (b1 + 1 = b) := hbb
  have pvn : pv < n := by omega
  have an0 : a < n := by omega
  clear hb1 hbb
  go_enter Try.func46, Try.ntmps46
  go_upto_region 1 with fail
  obtain ⟨x, y, hT⟩ := HS.out.any (i := a) (j := pv) (by rw [← HN.out]; omega) (by rw [← HN.out]; omega)
  have HT := keepH hT
  clear hT
  go_cut [] from 11 to 28 (fun wz => Hid (Same W g zs wz))
  case first =>
    obtain ⟨k1, k2, k3, k4, k5, k7⟩ : _ := (HT.out W (Chg.refl _ _)).out
    have k4 := k4 (.int .u64 (y : Int))
    obtain ⟨u, k5⟩ := k5 (.int .u64 (y : Int))
    obtain ⟨w9, hw9⟩ : ∃ w9, w9 = ((W.setCell ⟨g, a, none⟩ (.int .u64 (y : Int))).setCell ⟨g, pv, none⟩ (.int .u64 (x : Int))).drew := ⟨_, rfl⟩
    have H9 : Hid (Same W g zs w9) := by rw [hw9]; exact k7.quiet (Chg.refl _ _).drew
    clear k7 HT
    go_region
    all_goals (
      rw [← hw9]
      clear hw9 k1 k2 k3 k4 k5
      go_wp2_with fail
      go_meet
      exact H9)
  case rest =>
    have Hs1 := hcut
    clear hcut HT
    have hbb := HBB.out
    go_wp2_with fail
    clear wb wa
    go_loopw [9, 10] (fun sI sJ wr => ∃ i j : Nat, a + 1 ≤ i ∧ i ≤ b ∧ a ≤ j ∧ j < b ∧ sI = .int .i64 (i : Int) ∧ sJ = .int .i64 (j : Int) ∧ Hid (Same W g zs wr)) (fun sI _ _ => n + 1 - (intOf sI).toNat)
    case atStart => exact ⟨a + 1, b1, by omega, by omega, by omega, by omega, by first | rfl | go_num, by first | rfl | go_num, Hs1⟩
    case round =>
      obtain ⟨i0, j1, hi01, hi02, hj11, hj12, rfl, rfl, HO⟩ := hrel
      go_wp2_with fail
      go_loopw [9] (fun sI wr => ∃ i : Nat, i0 ≤ i ∧ i ≤ b ∧ sI = .int .i64 (i : Int) ∧ Hid (Same W g zs wr)) (fun sI _ => n + 1 - (intOf sI).toNat)
      case atStart => exact ⟨i0, by omega, by omega, by first | rfl | go_num, HO⟩
      case round =>
        obtain ⟨i, hi1, hi2, rfl, HI⟩ := hrel
        go_upto_region 3 with fail
        go_cut [43] from 29 to 45 (fun sr wz => ∃ t : Bool, sr = .bool t ∧ (t = true → i ≤ j1) ∧ Hid (Same W g zs wz))
        case first =>
          by_cases hij : i ≤ j1
          · have t1 : (i : Int) ≤ (j1 : Int) := by omega
            have pn : a < n := by omega
            have qn : i < n := by omega
            obtain ⟨x, y, hT⟩ := HI.out.any (i := a) (j := i) (by rw [← HN.out]; omega) (by rw [← HN.out]; omega)
            have cx := (hT wr (Chg.refl _ _)).out.1
            have cy := (hT wr (Chg.refl _ _)).out.2.1
            clear hT
            cases hlt : decide (x < y) with
            | true =>
              have HLS := keepH (less_is hlt)
              clear hlt
              go_quiet (first | (go_at_call 45; refine (HLS.out _).mono ?_; rintro q r ⟨rfl, rfl⟩; exact ⟨rfl, _, rfl⟩))
              obtain ⟨w9, hw9⟩ : ∃ z : World, z = wr.drewN nq := ⟨_, rfl⟩
              have H9 : Hid (Same W g zs w9) := by rw [hw9]; exact HI.out.quiet (drewN_chg wr nq)
              rw [← hw9]
              clear hw9 cx cy HLS
              go_wp2_with fail
              go_meet
              exact ⟨false, rfl, fun _ => hij, H9⟩
            | false =>
              have HLS := keepH (less_is hlt)
              clear hlt
              go_quiet (first | (go_at_call 45; refine (HLS.out _).mono ?_; rintro q r ⟨rfl, rfl⟩; exact ⟨rfl, _, rfl⟩))
              obtain ⟨w9, hw9⟩ : ∃ z : World, z = wr.drewN nq := ⟨_, rfl⟩
              have H9 : Hid (Same W g zs w9) := by rw [hw9]; exact HI.out.quiet (drewN_chg wr nq)
              rw [← hw9]
              clear hw9 cx cy HLS
              go_wp2_with fail
              go_meet
              exact ⟨true, rfl, fun _ => hij, H9⟩
          · have t1 : ¬ (i : Int) ≤ (j1 : Int) := by omega
            go_quiet (fail)
            obtain ⟨w9, hw9⟩ : ∃ z : World, z = wr.drewN nq := ⟨_, rfl⟩
            have H9 : Hid (Same W g zs w9) := by rw [hw9]; exact HI.out.quiet (drewN_chg wr nq)
            rw [← hw9]
            clear hw9
            go_wp2_with fail
            go_meet
            exact ⟨false, rfl, fun h => by simp at h, H9⟩
        case rest =>
          obtain ⟨t, rfl, hij, Hs3⟩ := hcut
          cases t with
          | true =>
            have hij : i ≤ j1 := hij rfl
            have wi : IntKind.i64.wrap ((i : Int) + 1) = ((i + 1 : Nat) : Int) := by rw [IntKind.wrap_i64]; omega
            go_wp2_with fail
            go_roundw
            case rel => exact ⟨i + 1, by omega, by omega, by first | rfl | go_num, Hs3⟩
            case measure => simp [intOf]; omega
          | false =>
            clear hij
            go_wp2_with fail
            go_loopw [10] (fun sJ wr => ∃ j : Nat, a ≤ j ∧ j ≤ j1 ∧ sJ = .int .i64 (j : Int) ∧ Hid (Same W g zs wr)) (fun sJ _ => (intOf sJ).toNat)
            case atStart => exact ⟨j1, by omega, by omega, by first | rfl | go_num, Hs3⟩
            case round =>
              obtain ⟨j, hj1, hj2, rfl, HJ⟩ := hrel
              go_upto_region 5 with fail
              go_cut [59] from 46 to 61 (fun sr wz => ∃ t : Bool, sr = .bool t ∧ (t = true → i ≤ j) ∧ Hid (Same W g zs wz))
              case first =>
                by_cases hij : i ≤ j
                · have t1 : (i : Int) ≤ (j : Int) := by omega
                  have pn : a < n := by omega
                  have qn : j < n := by omega
                  obtain ⟨x, y, hT⟩ := HJ.out.any (i := a) (j := j) (by rw [← HN.out]; omega) (by rw [← HN.out]; omega)
                  have cx := (hT wr (Chg.refl _ _)).out.1
                  have cy := (hT wr (Chg.refl _ _)).out.2.1
                  clear hT
                  cases hlt : decide (x < y) with
                  | true =>
                    have HLS := keepH (less_is hlt)
                    clear hlt
                    go_quiet (first | (go_at_call 45; refine (HLS.out _).mono ?_; rintro q r ⟨rfl, rfl⟩; exact ⟨rfl, _, rfl⟩))
                    obtain ⟨w9, hw9⟩ : ∃ z : World, z = wr.drewN nq := ⟨_, rfl⟩
                    have H9 : Hid (Same W g zs w9) := by rw [hw9]; exact HJ.out.quiet (drewN_chg wr nq)
                    rw [← hw9]
                    clear hw9 cx cy HLS
                    go_wp2_with fail
                    go_meet
                    exact ⟨true, rfl, fun _ => hij, H9⟩
                  | false =>
                    have HLS := keepH (less_is hlt)
                    clear hlt
                    go_quiet (first | (go_at_call 45; refine (HLS.out _).mono ?_; rintro q r ⟨rfl, rfl⟩; exact ⟨rfl, _, rfl⟩))
                    obtain ⟨w9, hw9⟩ : ∃ z : World, z = wr.drewN nq := ⟨_, rfl⟩
                    have H9 : Hid (Same W g zs w9) := by rw [hw9]; exact HJ.out.quiet (drewN_chg wr nq)
                    rw [← hw9]
                    clear hw9 cx cy HLS
                    go_wp2_with fail
                    go_meet
                    exact ⟨false, rfl, fun _ => hij, H9⟩
                · have t1 : ¬ (i : Int) ≤ (j : Int) := by omega
                  go_quiet (fail)
                  obtain ⟨w9, hw9⟩ : ∃ z : World, z = wr.drewN nq := ⟨_, rfl⟩
                  have H9 : Hid (Same W g zs w9) := by rw [hw9]; exact HJ.out.quiet (drewN_chg wr nq)
                  rw [← hw9]
                  clear hw9
                  go_wp2_with fail
                  go_meet
                  exact ⟨false, rfl, fun h => by simp at h, H9⟩
              case rest =>
                obtain ⟨t, rfl, hij, Hs5⟩ := hcut
                cases t with
                | true =>
                  have hij : i ≤ j := hij rfl
                  obtain ⟨j0, hj0⟩ : ∃ j0, j = j0 + 1 := ⟨j - 1, by omega⟩
                  have wj : IntKind.i64.wrap ((j : Int) - 1) = (j0 : Int) := by rw [IntKind.wrap_i64]; omega
                  have HJ0 : Hid (j = j0 + 1) := hj0
                  clear hj0
                  go_wp2_with fail
                  go_roundw
                  case rel => exact ⟨j0, by have := HJ0.out; omega, by have := HJ0.out; omega, by first | rfl | go_num, Hs5⟩
                  case measure => have := HJ0.out; simp [intOf]; omega
                | false =>
                  clear hij
                  by_cases hgt : j < i
                  · have t2 : (j : Int) < (i : Int) := by omega
                    have jn : j < n := by omega
                    have an : a < n := by omega
                    go_wp2_with fail
                    refine bodyPost_ret (results_tmp rfl _ _ _) rfl ⟨⟨i, rfl, by omega, by omega⟩, Hs5.out⟩
                  · have t2 : ¬ (j : Int) < (i : Int) := by omega
                    have jn : j < n := by omega
                    have i_n : i < n := by omega
                    have wi : IntKind.i64.wrap ((i : Int) + 1) = ((i + 1 : Nat) : Int) := by rw [IntKind.wrap_i64]; omega
                    obtain ⟨j0, hj0⟩ : ∃ j0, j = j0 + 1 := ⟨j - 1, by omega⟩
                    have wj : IntKind.i64.wrap ((j : Int) - 1) = (j0 : Int) := by rw [IntKind.wrap_i64]; omega
                    have HJ0 : Hid (j = j0 + 1) := hj0
                    clear hj0
                    go_upto_region 8 with fail
                    obtain ⟨x, y, hT⟩ := Hs5.out.any (i := i) (j := j) (by rw [← HN.out]; omega) (by rw [← HN.out]; omega)
                    have HT := keepH hT
                    clear hT
                    go_cut [] from 65 to 82 (fun wz => Hid (Same W g zs wz))
                    case first =>
                      obtain ⟨k1, k2, k3, k4, k5, k7⟩ : _ := (HT.out wc (Chg.refl _ _)).out
                      have k4 := k4 (.int .u64 (y : Int))
                      obtain ⟨u, k5⟩ := k5 (.int .u64 (y : Int))
                      obtain ⟨w9, hw9⟩ : ∃ w9, w9 = ((wc.setCell ⟨g, i, none⟩ (.int .u64 (y : Int))).setCell ⟨g, j, none⟩ (.int .u64 (x : Int))).drew := ⟨_, rfl⟩
                      have H9 : Hid (Same W g zs w9) := by rw [hw9]; exact k7.quiet (Chg.refl _ _).drew
                      clear k7 HT
                      go_region
                      all_goals (
                        rw [← hw9]
                        clear hw9 k1 k2 k3 k4 k5
                        go_wp2_with fail
                        go_meet
                        exact H9)
                    case rest =>
                      have Hs8 := hcut
                      clear hcut HT
                      go_wp2_with fail
                      go_roundw
                      case rel => exact ⟨i + 1, j0, by omega, by omega, by have := HJ0.out; omega, by have := HJ0.out; omega, by first | rfl | go_num, by first | rfl | go_num, Hs8⟩
                      case measure => simp [intOf]; omega
end Go.Proofs.Ytnlkdibalhgipaa
/- Parted by a pivot: the same numbers. -/
namespace Go.Proofs.Ytnlkdibalhgipaa
open Go.RowKit
set_option linter.unusedVariables false

set_option maxRecDepth 100000 in
set_option maxHeartbeats 32000000 in
theorem part_g {W : World} {g c a b pv : Nat} {zs : List Nat} (hr : RowU W g zs) (hb : b ≤ zs.length) (hz : zs.length ≤ 1152921504606846976) (ha : a < b) (hp : pv < b) (hpa : a ≤ pv) :
    Calls Try.prog 47 #[.slice (some ⟨g, 0, none⟩) zs.length c, .int .i64 (a : Int), .int .i64 (b : Int), .int .i64 (pv : Int)] W fun e W' => (∃ (m : Nat) (t : Bool), e = .returned (.tuple #[.int .i64 (m : Int), .bool t]) ∧ a ≤ m ∧ m < b) ∧ Same W g zs W' := by
  have HS := keepH (Same.refl hr)
  clear hr
  obtain ⟨n, hn⟩ : ∃ n, n = zs.length := ⟨_, rfl⟩
  rw [← hn] at hz hb ⊢
  have HN := keepH hn
  clear hn
  obtain ⟨b1, hb1⟩ : ∃ b1, b = b1 + 1 := ⟨b - 1, by omega⟩
  have wb : IntKind.i64.wrap ((b : Int) - 1) = (b1 : Int) := by rw [IntKind.wrap_i64]; omega
  have wa : IntKind.i64.wrap ((a : Int) + 1) = ((a + 1 : Nat) : Int) := by rw [IntKind.wrap_i64]; omega
  have hbb : b1 + 1 = b := by omega
  have HBB : Hid (b1 + 1 = b) := hbb
  have pvn : pv < n := by omega
  have an0 : a < n := by omega
  clear hb1 hbb
  go_enter Try.func47, Try.ntmps47
  go_upto_region 1 with fail
  obtain ⟨x, y, hT⟩ := HS.out.any (i := a) (j := pv) (by rw [← HN.out]; omega) (by rw [← HN.out]; omega)
  have HT := keepH hT
  clear hT
  go_cut [] from 12 to 29 (fun wz => Hid (Same W g zs wz))
  case first =>
    obtain ⟨k1, k2, k3, k4, k5, k7⟩ : _ := (HT.out W (Chg.refl _ _)).out
    have k4 := k4 (.int .u64 (y : Int))
    obtain ⟨u, k5⟩ := k5 (.int .u64 (y : Int))
    obtain ⟨w9, hw9⟩ : ∃ w9, w9 = ((W.setCell ⟨g, a, none⟩ (.int .u64 (y : Int))).setCell ⟨g, pv, none⟩ (.int .u64 (x : Int))).drew := ⟨_, rfl⟩
    have H9 : Hid (Same W g zs w9) := by rw [hw9]; exact k7.quiet (Chg.refl _ _).drew
    clear k7 HT
    go_region
    all_goals (
      rw [← hw9]
      clear hw9 k1 k2 k3 k4 k5
      go_wp2_with fail
      go_meet
      exact H9)
  case rest =>
    have Hs1 := hcut
    clear hcut HT
    have hbb := HBB.out
    obtain ⟨i0, hi0⟩ : ∃ i0, i0 = a + 1 := ⟨_, rfl⟩
    obtain ⟨j1, hj1⟩ : ∃ j1, j1 = b1 := ⟨_, rfl⟩
    have hii : a + 1 ≤ i0 := by omega
    have hii2 : i0 ≤ b := by omega
    have hjj : a ≤ j1 := by omega
    have hjj2 : j1 < b := by omega
    have wa' : IntKind.i64.wrap ((a : Int) + 1) = (i0 : Int) := by rw [wa]; omega
    have wb' : IntKind.i64.wrap ((b : Int) - 1) = (j1 : Int) := by rw [wb]; omega
    clear wa wb hi0 hj1
    go_wp2_with fail
    clear wa' wb'
    go_loopw [10] (fun sI wr => ∃ i : Nat, i0 ≤ i ∧ i ≤ b ∧ sI = .int .i64 (i : Int) ∧ Hid (Same W g zs wr)) (fun sI _ => n + 1 - (intOf sI).toNat)
    case atStart => exact ⟨i0, by omega, by omega, by first | rfl | go_num, Hs1⟩
    case round =>
      obtain ⟨i, hi1, hi2, rfl, HI⟩ := hrel
      go_upto_region 3 with fail
      go_cut [43] from 30 to 45 (fun sr wz => ∃ t : Bool, sr = .bool t ∧ (t = true → i ≤ j1) ∧ Hid (Same W g zs wz))
      case first =>
        by_cases hij : i ≤ j1
        · have t1 : (i : Int) ≤ (j1 : Int) := by omega
          have pn : i < n := by omega
          have qn : a < n := by omega
          obtain ⟨x, y, hT⟩ := HI.out.any (i := i) (j := a) (by rw [← HN.out]; omega) (by rw [← HN.out]; omega)
          have cx := (hT wr (Chg.refl _ _)).out.1
          have cy := (hT wr (Chg.refl _ _)).out.2.1
          clear hT
          cases hlt : decide (x < y) with
          | true =>
            have HLS := keepH (less_is hlt)
            clear hlt
            go_quiet (first | (go_at_call 45; refine (HLS.out _).mono ?_; rintro q r ⟨rfl, rfl⟩; exact ⟨rfl, _, rfl⟩))
            obtain ⟨w9, hw9⟩ : ∃ z : World, z = wr.drewN nq := ⟨_, rfl⟩
            have H9 : Hid (Same W g zs w9) := by rw [hw9]; exact HI.out.quiet (drewN_chg wr nq)
            rw [← hw9]
            clear hw9 cx cy HLS
            go_wp2_with fail
            go_meet
            exact ⟨true, rfl, fun _ => hij, H9⟩
          | false =>
            have HLS := keepH (less_is hlt)
            clear hlt
            go_quiet (first | (go_at_call 45; refine (HLS.out _).mono ?_; rintro q r ⟨rfl, rfl⟩; exact ⟨rfl, _, rfl⟩))
            obtain ⟨w9, hw9⟩ : ∃ z : World, z = wr.drewN nq := ⟨_, rfl⟩
            have H9 : Hid (Same W g zs w9) := by rw [hw9]; exact HI.out.quiet (drewN_chg wr nq)
            rw [← hw9]
            clear hw9 cx cy HLS
            go_wp2_with fail
            go_meet
            exact ⟨false, rfl, fun _ => hij, H9⟩
        · have t1 : ¬ (i : Int) ≤ (j1 : Int) := by omega
          go_quiet (fail)
          obtain ⟨w9, hw9⟩ : ∃ z : World, z = wr.drewN nq := ⟨_, rfl⟩
          have H9 : Hid (Same W g zs w9) := by rw [hw9]; exact HI.out.quiet (drewN_chg wr nq)
          rw [← hw9]
          clear hw9
          go_wp2_with fail
          go_meet
          exact ⟨false, rfl, fun h => by simp at h, H9⟩
      case rest =>
        obtain ⟨t, rfl, hij, Hs3⟩ := hcut
        cases t with
        | true =>
          have hij : i ≤ j1 := hij rfl
          have wi : IntKind.i64.wrap ((i : Int) + 1) = ((i + 1 : Nat) : Int) := by rw [IntKind.wrap_i64]; omega
          go_wp2_with fail
          go_roundw
          case rel => exact ⟨i + 1, by omega, by omega, by first | rfl | go_num, Hs3⟩
          case measure => simp [intOf]; omega
        | false =>
          clear hij
          go_wp2_with fail
          go_loopw [11] (fun sJ wr => ∃ j : Nat, a ≤ j ∧ j ≤ j1 ∧ sJ = .int .i64 (j : Int) ∧ Hid (Same W g zs wr)) (fun sJ _ => (intOf sJ).toNat)
          case atStart => exact ⟨j1, by omega, by omega, by first | rfl | go_num, Hs3⟩
          case round =>
            obtain ⟨j, hj1, hj2, rfl, HJ⟩ := hrel
            go_upto_region 5 with fail
            go_cut [60] from 46 to 62 (fun sr wz => ∃ t : Bool, sr = .bool t ∧ (t = true → i ≤ j) ∧ Hid (Same W g zs wz))
            case first =>
              by_cases hij : i ≤ j
              · have t1 : (i : Int) ≤ (j : Int) := by omega
                have pn : j < n := by omega
                have qn : a < n := by omega
                obtain ⟨x, y, hT⟩ := HJ.out.any (i := j) (j := a) (by rw [← HN.out]; omega) (by rw [← HN.out]; omega)
                have cx := (hT wr (Chg.refl _ _)).out.1
                have cy := (hT wr (Chg.refl _ _)).out.2.1
                clear hT
                cases hlt : decide (x < y) with
                | true =>
                  have HLS := keepH (less_is hlt)
                  clear hlt
                  go_quiet (first | (go_at_call 45; refine (HLS.out _).mono ?_; rintro q r ⟨rfl, rfl⟩; exact ⟨rfl, _, rfl⟩))
                  obtain ⟨w9, hw9⟩ : ∃ z : World, z = wr.drewN nq := ⟨_, rfl⟩
                  have H9 : Hid (Same W g zs w9) := by rw [hw9]; exact HJ.out.quiet (drewN_chg wr nq)
                  rw [← hw9]
                  clear hw9 cx cy HLS
                  go_wp2_with fail
                  go_meet
                  exact ⟨false, rfl, fun _ => hij, H9⟩
                | false =>
                  have HLS := keepH (less_is hlt)
                  clear hlt
                  go_quiet (first | (go_at_call 45; refine (HLS.out _).mono ?_; rintro q r ⟨rfl, rfl⟩; exact ⟨rfl, _, rfl⟩))
                  obtain ⟨w9, hw9⟩ : ∃ z : World, z = wr.drewN nq := ⟨_, rfl⟩
                  have H9 : Hid (Same W g zs w9) := by rw [hw9]; exact HJ.out.quiet (drewN_chg wr nq)
                  rw [← hw9]
                  clear hw9 cx cy HLS
                  go_wp2_with fail
                  go_meet
                  exact ⟨true, rfl, fun _ => hij, H9⟩
              · have t1 : ¬ (i : Int) ≤ (j : Int) := by omega
                go_quiet (fail)
                obtain ⟨w9, hw9⟩ : ∃ z : World, z = wr.drewN nq := ⟨_, rfl⟩
                have H9 : Hid (Same W g zs w9) := by rw [hw9]; exact HJ.out.quiet (drewN_chg wr nq)
                rw [← hw9]
                clear hw9
                go_wp2_with fail
                go_meet
                exact ⟨false, rfl, fun h => by simp at h, H9⟩
            case rest =>
              obtain ⟨t, rfl, hij, Hs5⟩ := hcut
              cases t with
              | true =>
                have hij : i ≤ j := hij rfl
                obtain ⟨j0, hj0⟩ : ∃ j0, j = j0 + 1 := ⟨j - 1, by omega⟩
                have wj : IntKind.i64.wrap ((j : Int) - 1) = (j0 : Int) := by rw [IntKind.wrap_i64]; omega
                have HJ0 : Hid (j = j0 + 1) := hj0
                clear hj0
                go_wp2_with fail
                go_roundw
                case rel => exact ⟨j0, by have := HJ0.out; omega, by have := HJ0.out; omega, by first | rfl | go_num, Hs5⟩
                case measure => have := HJ0.out; simp [intOf]; omega
              | false =>
                clear hij
                by_cases hgt : j < i
                · have t2 : (j : Int) < (i : Int) := by omega
                  have jn : j < n := by omega
                  have an : a < n := by omega
                  go_upto_region 8 with fail
                  obtain ⟨x, y, hT⟩ := Hs5.out.any (i := j) (j := a) (by rw [← HN.out]; omega) (by rw [← HN.out]; omega)
                  have HT := keepH hT
                  clear hT
                  go_cut [] from 66 to 79 (fun wz => Hid (Same W g zs wz))
                  case first =>
                    obtain ⟨k1, k2, k3, k4, k5, k7⟩ : _ := (HT.out wc (Chg.refl _ _)).out
                    have k4 := k4 (.int .u64 (y : Int))
                    obtain ⟨u, k5⟩ := k5 (.int .u64 (y : Int))
                    obtain ⟨w9, hw9⟩ : ∃ w9, w9 = ((wc.setCell ⟨g, j, none⟩ (.int .u64 (y : Int))).setCell ⟨g, a, none⟩ (.int .u64 (x : Int))).drew := ⟨_, rfl⟩
                    have H9 : Hid (Same W g zs w9) := by rw [hw9]; exact k7.quiet (Chg.refl _ _).drew
                    clear k7 HT
                    go_region
                    all_goals (
                      rw [← hw9]
                      clear hw9 k1 k2 k3 k4 k5
                      go_wp2_with fail
                      go_meet
                      exact H9)
                  case rest =>
                    have Hs8 := hcut
                    clear hcut HT
                    go_wp2_with fail
                    exact bodyPost_ret (results_tmp2 rfl _ _ _) rfl ⟨⟨j, true, rfl, by omega, by omega⟩, Hs8.out⟩
                · have t2 : ¬ (j : Int) < (i : Int) := by omega
                  have jn : j < n := by omega
                  have i_n : i < n := by omega
                  have wi : IntKind.i64.wrap ((i : Int) + 1) = ((i + 1 : Nat) : Int) := by rw [IntKind.wrap_i64]; omega
                  obtain ⟨j0, hj0⟩ : ∃ j0, j = j0 + 1 := ⟨j - 1, by omega⟩
                  have wj : IntKind.i64.wrap ((j : Int) - 1) = (j0 : Int) := by rw [IntKind.wrap_i64]; omega
                  have HJ0 : Hid (j = j0 + 1) := hj0
                  clear hj0
                  go_upto_region 10 with fail
                  obtain ⟨x, y, hT⟩ := Hs5.out.any (i := i) (j := j) (by rw [← HN.out]; omega) (by rw [← HN.out]; omega)
                  have HT := keepH hT
                  clear hT
                  go_cut [] from 81 to 98 (fun wz => Hid (Same W g zs wz))
                  case first =>
                    obtain ⟨k1, k2, k3, k4, k5, k7⟩ : _ := (HT.out wc (Chg.refl _ _)).out
                    have k4 := k4 (.int .u64 (y : Int))
                    obtain ⟨u, k5⟩ := k5 (.int .u64 (y : Int))
                    obtain ⟨w9, hw9⟩ : ∃ w9, w9 = ((wc.setCell ⟨g, i, none⟩ (.int .u64 (y : Int))).setCell ⟨g, j, none⟩ (.int .u64 (x : Int))).drew := ⟨_, rfl⟩
                    have H9 : Hid (Same W g zs w9) := by rw [hw9]; exact k7.quiet (Chg.refl _ _).drew
                    clear k7 HT
                    go_region
                    all_goals (
                      rw [← hw9]
                      clear hw9 k1 k2 k3 k4 k5
                      go_wp2_with fail
                      go_meet
                      exact H9)
                  case rest =>
                    have Hs10 := hcut
                    clear hcut HT
                    go_wp2_with fail
                    have hq1 : a ≤ j0 := by have := HJ0.out; omega
                    have hq2 : j0 < b := by have := HJ0.out; omega
                    go_loopw [10, 11] (fun sI sJ wr => ∃ i j : Nat, a + 1 ≤ i ∧ i ≤ b ∧ a ≤ j ∧ j < b ∧ sI = .int .i64 (i : Int) ∧ sJ = .int .i64 (j : Int) ∧ Hid (Same W g zs wr)) (fun sI _ _ => n + 1 - (intOf sI).toNat)
                    case atStart => exact ⟨(i + 1), j0, by omega, by omega, by omega, by omega, by first | rfl | go_num, by first | rfl | go_num, Hs10⟩
                    case round =>
                      obtain ⟨i0, j1, hi01, hi02, hj11, hj12, rfl, rfl, HO⟩ := hrel
                      go_wp2_with fail
                      go_loopw [10] (fun sI wr => ∃ i : Nat, i0 ≤ i ∧ i ≤ b ∧ sI = .int .i64 (i : Int) ∧ Hid (Same W g zs wr)) (fun sI _ => n + 1 - (intOf sI).toNat)
                      case atStart => exact ⟨i0, by omega, by omega, by first | rfl | go_num, HO⟩
                      case round =>
                        obtain ⟨i, hi1, hi2, rfl, HI⟩ := hrel
                        go_upto_region 13 with fail
                        go_cut [112] from 99 to 114 (fun sr wz => ∃ t : Bool, sr = .bool t ∧ (t = true → i ≤ j1) ∧ Hid (Same W g zs wz))
                        case first =>
                          by_cases hij : i ≤ j1
                          · have t1 : (i : Int) ≤ (j1 : Int) := by omega
                            have pn : i < n := by omega
                            have qn : a < n := by omega
                            obtain ⟨x, y, hT⟩ := HI.out.any (i := i) (j := a) (by rw [← HN.out]; omega) (by rw [← HN.out]; omega)
                            have cx := (hT wr (Chg.refl _ _)).out.1
                            have cy := (hT wr (Chg.refl _ _)).out.2.1
                            clear hT
                            cases hlt : decide (x < y) with
                            | true =>
                              have HLS := keepH (less_is hlt)
                              clear hlt
                              go_quiet (first | (go_at_call 45; refine (HLS.out _).mono ?_; rintro q r ⟨rfl, rfl⟩; exact ⟨rfl, _, rfl⟩))
                              obtain ⟨w9, hw9⟩ : ∃ z : World, z = wr.drewN nq := ⟨_, rfl⟩
                              have H9 : Hid (Same W g zs w9) := by rw [hw9]; exact HI.out.quiet (drewN_chg wr nq)
                              rw [← hw9]
                              clear hw9 cx cy HLS
                              go_wp2_with fail
                              go_meet
                              exact ⟨true, rfl, fun _ => hij, H9⟩
                            | false =>
                              have HLS := keepH (less_is hlt)
                              clear hlt
                              go_quiet (first | (go_at_call 45; refine (HLS.out _).mono ?_; rintro q r ⟨rfl, rfl⟩; exact ⟨rfl, _, rfl⟩))
                              obtain ⟨w9, hw9⟩ : ∃ z : World, z = wr.drewN nq := ⟨_, rfl⟩
                              have H9 : Hid (Same W g zs w9) := by rw [hw9]; exact HI.out.quiet (drewN_chg wr nq)
                              rw [← hw9]
                              clear hw9 cx cy HLS
                              go_wp2_with fail
                              go_meet
                              exact ⟨false, rfl, fun _ => hij, H9⟩
                          · have t1 : ¬ (i : Int) ≤ (j1 : Int) := by omega
                            go_quiet (fail)
                            obtain ⟨w9, hw9⟩ : ∃ z : World, z = wr.drewN nq := ⟨_, rfl⟩
                            have H9 : Hid (Same W g zs w9) := by rw [hw9]; exact HI.out.quiet (drewN_chg wr nq)
                            rw [← hw9]
                            clear hw9
                            go_wp2_with fail
                            go_meet
                            exact ⟨false, rfl, fun h => by simp at h, H9⟩
                        case rest =>
                          obtain ⟨t, rfl, hij, Hs13⟩ := hcut
                          cases t with
                          | true =>
                            have hij : i ≤ j1 := hij rfl
                            have wi : IntKind.i64.wrap ((i : Int) + 1) = ((i + 1 : Nat) : Int) := by rw [IntKind.wrap_i64]; omega
                            go_wp2_with fail
                            go_roundw
                            case rel => exact ⟨i + 1, by omega, by omega, by first | rfl | go_num, Hs13⟩
                            case measure => simp [intOf]; omega
                          | false =>
                            clear hij
                            go_wp2_with fail
                            go_loopw [11] (fun sJ wr => ∃ j : Nat, a ≤ j ∧ j ≤ j1 ∧ sJ = .int .i64 (j : Int) ∧ Hid (Same W g zs wr)) (fun sJ _ => (intOf sJ).toNat)
                            case atStart => exact ⟨j1, by omega, by omega, by first | rfl | go_num, Hs13⟩
                            case round =>
                              obtain ⟨j, hj1, hj2, rfl, HJ⟩ := hrel
                              go_upto_region 15 with fail
                              go_cut [129] from 115 to 131 (fun sr wz => ∃ t : Bool, sr = .bool t ∧ (t = true → i ≤ j) ∧ Hid (Same W g zs wz))
                              case first =>
                                by_cases hij : i ≤ j
                                · have t1 : (i : Int) ≤ (j : Int) := by omega
                                  have pn : j < n := by omega
                                  have qn : a < n := by omega
                                  obtain ⟨x, y, hT⟩ := HJ.out.any (i := j) (j := a) (by rw [← HN.out]; omega) (by rw [← HN.out]; omega)
                                  have cx := (hT wr (Chg.refl _ _)).out.1
                                  have cy := (hT wr (Chg.refl _ _)).out.2.1
                                  clear hT
                                  cases hlt : decide (x < y) with
                                  | true =>
                                    have HLS := keepH (less_is hlt)
                                    clear hlt
                                    go_quiet (first | (go_at_call 45; refine (HLS.out _).mono ?_; rintro q r ⟨rfl, rfl⟩; exact ⟨rfl, _, rfl⟩))
                                    obtain ⟨w9, hw9⟩ : ∃ z : World, z = wr.drewN nq := ⟨_, rfl⟩
                                    have H9 : Hid (Same W g zs w9) := by rw [hw9]; exact HJ.out.quiet (drewN_chg wr nq)
                                    rw [← hw9]
                                    clear hw9 cx cy HLS
                                    go_wp2_with fail
                                    go_meet
                                    exact ⟨false, rfl, fun _ => hij, H9⟩
                                  | false =>
                                    have HLS := keepH (less_is hlt)
                                    clear hlt
                                    go_quiet (first | (go_at_call 45; refine (HLS.out _).mono ?_; rintro q r ⟨rfl, rfl⟩; exact ⟨rfl, _, rfl⟩))
                                    obtain ⟨w9, hw9⟩ : ∃ z : World, z = wr.drewN nq := ⟨_, rfl⟩
                                    have H9 : Hid (Same W g zs w9) := by rw [hw9]; exact HJ.out.quiet (drewN_chg wr nq)
                                    rw [← hw9]
                                    clear hw9 cx cy HLS
                                    go_wp2_with fail
                                    go_meet
                                    exact ⟨true, rfl, fun _ => hij, H9⟩
                                · have t1 : ¬ (i : Int) ≤ (j : Int) := by omega
                                  go_quiet (fail)
                                  obtain ⟨w9, hw9⟩ : ∃ z : World, z = wr.drewN nq := ⟨_, rfl⟩
                                  have H9 : Hid (Same W g zs w9) := by rw [hw9]; exact HJ.out.quiet (drewN_chg wr nq)
                                  rw [← hw9]
                                  clear hw9
                                  go_wp2_with fail
                                  go_meet
                                  exact ⟨false, rfl, fun h => by simp at h, H9⟩
                              case rest =>
                                obtain ⟨t, rfl, hij, Hs15⟩ := hcut
                                cases t with
                                | true =>
                                  have hij : i ≤ j := hij rfl
                                  obtain ⟨j0, hj0⟩ : ∃ j0, j = j0 + 1 := ⟨j - 1, by omega⟩
                                  have wj : IntKind.i64.wrap ((j : Int) - 1) = (j0 : Int) := by rw [IntKind.wrap_i64]; omega
                                  have HJ0 : Hid (j = j0 + 1) := hj0
                                  clear hj0
                                  go_wp2_with fail
                                  go_roundw
                                  case rel => exact ⟨j0, by have := HJ0.out; omega, by have := HJ0.out; omega, by first | rfl | go_num, Hs15⟩
                                  case measure => have := HJ0.out; simp [intOf]; omega
                                | false =>
                                  clear hij
                                  by_cases hgt : j < i
                                  · have t2 : (j : Int) < (i : Int) := by omega
                                    have jn : j < n := by omega
                                    have an : a < n := by omega
                                    go_upto_region 21 with fail
                                    obtain ⟨x, y, hT⟩ := Hs15.out.any (i := j) (j := a) (by rw [← HN.out]; omega) (by rw [← HN.out]; omega)
                                    have HT := keepH hT
                                    clear hT
                                    go_cut [] from 153 to 166 (fun wz => Hid (Same W g zs wz))
                                    case first =>
                                      obtain ⟨k1, k2, k3, k4, k5, k7⟩ : _ := (HT.out wc (Chg.refl _ _)).out
                                      have k4 := k4 (.int .u64 (y : Int))
                                      obtain ⟨u, k5⟩ := k5 (.int .u64 (y : Int))
                                      obtain ⟨w9, hw9⟩ : ∃ w9, w9 = ((wc.setCell ⟨g, j, none⟩ (.int .u64 (y : Int))).setCell ⟨g, a, none⟩ (.int .u64 (x : Int))).drew := ⟨_, rfl⟩
                                      have H9 : Hid (Same W g zs w9) := by rw [hw9]; exact k7.quiet (Chg.refl _ _).drew
                                      clear k7 HT
                                      go_region
                                      all_goals (
                                        rw [← hw9]
                                        clear hw9 k1 k2 k3 k4 k5
                                        go_wp2_with fail
                                        go_meet
                                        exact H9)
                                    case rest =>
                                      have Hs21 := hcut
                                      clear hcut HT
                                      go_wp2_with fail
                                      exact bodyPost_ret (results_tmp2 rfl _ _ _) rfl ⟨⟨j, false, rfl, by omega, by omega⟩, Hs21.out⟩
                                  · have t2 : ¬ (j : Int) < (i : Int) := by omega
                                    have jn : j < n := by omega
                                    have i_n : i < n := by omega
                                    have wi : IntKind.i64.wrap ((i : Int) + 1) = ((i + 1 : Nat) : Int) := by rw [IntKind.wrap_i64]; omega
                                    obtain ⟨j0, hj0⟩ : ∃ j0, j = j0 + 1 := ⟨j - 1, by omega⟩
                                    have wj : IntKind.i64.wrap ((j : Int) - 1) = (j0 : Int) := by rw [IntKind.wrap_i64]; omega
                                    have HJ0 : Hid (j = j0 + 1) := hj0
                                    clear hj0
                                    go_upto_region 18 with fail
                                    obtain ⟨x, y, hT⟩ := Hs15.out.any (i := i) (j := j) (by rw [← HN.out]; omega) (by rw [← HN.out]; omega)
                                    have HT := keepH hT
                                    clear hT
                                    go_cut [] from 135 to 152 (fun wz => Hid (Same W g zs wz))
                                    case first =>
                                      obtain ⟨k1, k2, k3, k4, k5, k7⟩ : _ := (HT.out wc (Chg.refl _ _)).out
                                      have k4 := k4 (.int .u64 (y : Int))
                                      obtain ⟨u, k5⟩ := k5 (.int .u64 (y : Int))
                                      obtain ⟨w9, hw9⟩ : ∃ w9, w9 = ((wc.setCell ⟨g, i, none⟩ (.int .u64 (y : Int))).setCell ⟨g, j, none⟩ (.int .u64 (x : Int))).drew := ⟨_, rfl⟩
                                      have H9 : Hid (Same W g zs w9) := by rw [hw9]; exact k7.quiet (Chg.refl _ _).drew
                                      clear k7 HT
                                      go_region
                                      all_goals (
                                        rw [← hw9]
                                        clear hw9 k1 k2 k3 k4 k5
                                        go_wp2_with fail
                                        go_meet
                                        exact H9)
                                    case rest =>
                                      have Hs18 := hcut
                                      clear hcut HT
                                      go_wp2_with fail
                                      go_roundw
                                      case rel => exact ⟨i + 1, j0, by omega, by omega, by have := HJ0.out; omega, by have := HJ0.out; omega, by first | rfl | go_num, by first | rfl | go_num, Hs18⟩
                                      case measure => simp [intOf]; omega
end Go.Proofs.Ytnlkdibalhgipaa
/- The pivot that is chosen lies in the part. -/
namespace Go.Proofs.Ytnlkdibalhgipaa
open Go.RowKit
set_option linter.unusedVariables false

/-- The row as it was, and a cell that counts. -/
structure PV (W w : World) (g : Nat) (zs : List Nat) (sb : Nat) : Prop where
  row : RowU w g zs
  blk : ∃ z : Int, Blk w sb 3 [.int .i64 z]
  ne : ¬ g = sb
  chg : Chg (fun k => k = sb) W w
theorem PV.quiet {W w w' : World} {g : Nat} {zs : List Nat} {sb : Nat} (h : PV W w g zs sb) (c : Chg (fun _ => False) w w') : PV W w' g zs sb := by
  obtain ⟨z, hz⟩ := h.blk
  exact ⟨h.row.chg c (fun x => x), ⟨z, hz.chg c (fun x => x)⟩, h.ne, h.chg.pf c⟩
theorem PV.put {W w : World} {g : Nat} {zs : List Nat} {sb : Nat} (h : PV W w g zs sb) (z : Int) : PV W (w.setCell ⟨sb, 0, none⟩ (.int .i64 z)) g zs sb := by
  obtain ⟨y, hy⟩ := h.blk
  exact ⟨h.row.chg (setP (p := sb) _) h.ne, ⟨z, hy.set 0 _⟩, h.ne, h.chg.p (setP _)⟩
set_option maxRecDepth 100000 in
set_option maxHeartbeats 4000000 in
theorem ord2_g {W w : World} {g c sb a b n : Nat} {zs : List Nat} (h : PV W w g zs sb) (hn : n = zs.length) (ha : a < n) (hb : b < n) :
    Calls Try.prog 67 #[.slice (some ⟨g, 0, none⟩) n c, .int .i64 (a : Int), .int .i64 (b : Int), .pointer (some ⟨sb, 0, none⟩)] w fun e w' => (∃ p q : Nat, e = .returned (.tuple #[.int .i64 (p : Int), .int .i64 (q : Int)]) ∧ (p = a ∨ p = b) ∧ (q = a ∨ q = b)) ∧ PV W w' g zs sb := by
  obtain ⟨x, hx⟩ : ∃ x, zs[b]? = some x := ⟨_, List.getElem?_eq_getElem (by omega)⟩
  obtain ⟨y, hy⟩ : ∃ y, zs[a]? = some y := ⟨_, List.getElem?_eq_getElem (by omega)⟩
  have cx := h.row.cell b x hx
  have cy := h.row.cell a y hy
  have H := keepH h
  clear h hn hx hy
  cases hlt : decide (x < y) with
  | true =>
    have HLS := keepH (less_is hlt)
    clear hlt
    go_enter Try.func67, Try.ntmps67
    go_upto_region 1 with fail
    go_quiet (first | (go_at_call 45; refine (HLS.out _).mono ?_; rintro q r ⟨rfl, rfl⟩; exact ⟨rfl, _, rfl⟩))
    obtain ⟨w3, hw3⟩ : ∃ z : World, z = w.drewN nq := ⟨_, rfl⟩
    have H3 : Hid (PV W w3 g zs sb) := by rw [hw3]; exact H.out.quiet (drewN_chg w nq)
    rw [← hw3]
    clear hw3 cx cy HLS H
    obtain ⟨z, hz⟩ := H3.out.blk
    have s1 : w3.cell? ⟨sb, 0, none⟩ = some (.int .i64 z) := hz.cell 0
    have s2 := hz.free 0
    have H4 : Hid (∀ v : Int, PV W (w3.setCell ⟨sb, 0, none⟩ (.int .i64 v)) g zs sb) := fun v => H3.out.put v
    clear hz H3
    go_wp2_with fail
    exact bodyPost_ret (results_tmp2 rfl _ _ _) rfl ⟨⟨b, a, rfl, .inr rfl, .inl rfl⟩, H4.out _⟩
  | false =>
    have HLS := keepH (less_is hlt)
    clear hlt
    go_enter Try.func67, Try.ntmps67
    go_upto_region 1 with fail
    go_quiet (first | (go_at_call 45; refine (HLS.out _).mono ?_; rintro q r ⟨rfl, rfl⟩; exact ⟨rfl, _, rfl⟩))
    obtain ⟨w3, hw3⟩ : ∃ z : World, z = w.drewN nq := ⟨_, rfl⟩
    have H3 : Hid (PV W w3 g zs sb) := by rw [hw3]; exact H.out.quiet (drewN_chg w nq)
    rw [← hw3]
    clear hw3 cx cy HLS H
    go_wp2_with fail
    exact bodyPost_ret (results_tmp2 rfl _ _ _) rfl ⟨⟨a, b, rfl, .inl rfl, .inr rfl⟩, H3.out⟩
set_option maxRecDepth 100000 in
set_option maxHeartbeats 4000000 in
theorem med_g {W w : World} {g c sb a b d n : Nat} {zs : List Nat} (h : PV W w g zs sb) (hn : n = zs.length) (ha : a < n) (hb : b < n) (hd : d < n) :
    Calls Try.prog 63 #[.slice (some ⟨g, 0, none⟩) n c, .int .i64 (a : Int), .int .i64 (b : Int), .int .i64 (d : Int), .pointer (some ⟨sb, 0, none⟩)] w fun e w' => (∃ p : Nat, e = .returned (.int .i64 (p : Int)) ∧ (p = a ∨ p = b ∨ p = d)) ∧ PV W w' g zs sb := by
  have H := keepH h
  have HN := keepH hn
  clear h hn
  go_enter Try.func63, Try.ntmps63
  go_wp2_with fail
  refine (ord2_g H.out HN.out ha hb).mono ?_
  rintro e w1 ⟨⟨p1, q1, rfl, hp1, hq1⟩, h1⟩
  have H1 := keepH h1
  have HA : Hid ((p1 = a ∨ p1 = b) ∧ (q1 = a ∨ q1 = b)) := ⟨hp1, hq1⟩
  clear h1 hp1 hq1
  go_wp2_with fail
  refine (ord2_g H1.out HN.out (by have := HA.out; omega) hd).mono ?_
  rintro e w2 ⟨⟨p2, q2, rfl, hp2, hq2⟩, h2⟩
  have H2 := keepH h2
  have HB : Hid ((p2 = q1 ∨ p2 = d) ∧ (q2 = q1 ∨ q2 = d)) := ⟨hp2, hq2⟩
  clear h2 hp2 hq2
  go_wp2_with fail
  refine (ord2_g H2.out HN.out (by have := HA.out; omega) (by have := HA.out; have := HB.out; omega)).mono ?_
  rintro e w3 ⟨⟨p3, q3, rfl, hp3, hq3⟩, h3⟩
  have H3 := keepH h3
  have HC : Hid (q3 = p1 ∨ q3 = p2) := hq3
  clear h3 hp3 hq3
  go_wp2_with fail
  exact bodyPost_ret (results_tmp rfl _ _ _) rfl ⟨⟨q3, rfl, by have := HA.out; have := HB.out; have := HC.out; omega⟩, H3.out⟩
set_option maxRecDepth 100000 in
set_option maxHeartbeats 4000000 in
theorem medadj_g {W w : World} {g c sb a n : Nat} {zs : List Nat} (h : PV W w g zs sb) (hn : n = zs.length) (ha : a + 1 < n) (h1 : 1 ≤ a) (hz : n ≤ 1152921504606846976) :
    Calls Try.prog 62 #[.slice (some ⟨g, 0, none⟩) n c, .int .i64 (a : Int), .pointer (some ⟨sb, 0, none⟩)] w fun e w' => (∃ p : Nat, e = .returned (.int .i64 (p : Int)) ∧ p ≤ a + 1 ∧ a ≤ p + 1) ∧ PV W w' g zs sb := by
  have H := keepH h
  have HN := keepH hn
  obtain ⟨l, hl⟩ : ∃ l, a = l + 1 := ⟨a - 1, by omega⟩
  obtain ⟨r, hr⟩ : ∃ r, r = a + 1 := ⟨_, rfl⟩
  have wl : IntKind.i64.wrap ((a : Int) - 1) = (l : Int) := by rw [IntKind.wrap_i64]; omega
  have wr : IntKind.i64.wrap ((a : Int) + 1) = (r : Int) := by rw [IntKind.wrap_i64]; omega
  have HA : Hid (a = l + 1 ∧ r = a + 1) := ⟨hl, hr⟩
  have b1 : l < n := by omega
  have b2 : r < n := by omega
  clear h hn hl hr
  go_enter Try.func62, Try.ntmps62
  go_wp2_with fail
  refine (med_g H.out HN.out b1 (by omega) b2).mono ?_
  rintro e w1 ⟨⟨p, rfl, hp⟩, k1⟩
  have H1 := keepH k1
  have HP : Hid (p ≤ a + 1 ∧ a ≤ p + 1) := by have := HA.out; exact ⟨by omega, by omega⟩
  clear k1 hp
  go_wp2_with fail
  exact bodyPost_ret (results_tmp rfl _ _ _) rfl ⟨⟨p, rfl, HP.out.1, HP.out.2⟩, H1.out⟩
end Go.Proofs.Ytnlkdibalhgipaa
/- The pivot. -/
namespace Go.Proofs.Ytnlkdibalhgipaa
open Go.RowKit
set_option linter.unusedVariables false

set_option maxRecDepth 100000 in
set_option maxHeartbeats 8000000 in
/-- The pivot of a part of more than twelve: it lies in the part; nothing that was there is changed. -/
theorem pivot_g {W : World} {g c a b : Nat} {zs : List Nat} (hr : RowU W g zs) (hb : b ≤ zs.length) (hz : zs.length ≤ 1152921504606846976) (ha : a + 12 < b) :
    Calls Try.prog 42 #[.slice (some ⟨g, 0, none⟩) zs.length c, .int .i64 (a : Int), .int .i64 (b : Int)] W fun e W' => (∃ (p : Nat) (t : Int), e = .returned (.tuple #[.int .i64 (p : Int), .int .i64 t]) ∧ a ≤ p ∧ p < b) ∧ Chg (fun _ => False) W W' := by
  obtain ⟨n, hn⟩ : ∃ n, n = zs.length := ⟨_, rfl⟩
  rw [← hn] at hz hb ⊢
  obtain ⟨sb, hsb⟩ : ∃ sb, sb = W.heap.size := ⟨_, rfl⟩
  obtain ⟨w0, hw0⟩ : ∃ w0, w0 = W.alloc (.cells #[.int .i64 0] 3) := ⟨_, rfl⟩
  have H0 : Hid (PV w0 w0 g zs sb) := by
    have lt : g < W.heap.size := by obtain ⟨rest, B⟩ := hr; exact lt_of B
    refine ⟨?_, ⟨0, ?_⟩, by omega, Chg.refl _ _⟩
    · rw [hw0]; exact hr.chg (F := fun _ => False) ((Chg.refl _ _).alloc _) (fun x => x)
    · rw [hw0, hsb]; exact heap_alloc_new _ _
  have HC : Hid (∀ w, Chg (fun k => k = sb) w0 w → Chg (fun _ => False) W w) := fun w c => by
    have c0 : Chg (fun _ => False) W w0 := by rw [hw0]; exact (Chg.refl _ _).alloc _
    exact c0.trans c (fun _ _ x => x) (fun i hi e => by omega)
  have HN := keepH hn
  obtain ⟨l, hl⟩ : ∃ l, l = b - a := ⟨_, rfl⟩
  obtain ⟨q, hq⟩ : ∃ q, q = l / 4 := ⟨_, rfl⟩
  obtain ⟨q2, hq2⟩ : ∃ q2, q2 = q * 2 := ⟨_, rfl⟩
  obtain ⟨q3, hq3⟩ : ∃ q3, q3 = q * 3 := ⟨_, rfl⟩
  obtain ⟨i, hi⟩ : ∃ i, i = a + q := ⟨_, rfl⟩
  obtain ⟨j, hj⟩ : ∃ j, j = a + q2 := ⟨_, rfl⟩
  obtain ⟨k, hk⟩ : ∃ k, k = a + q3 := ⟨_, rfl⟩
  have w1 : IntKind.i64.wrap ((b : Int) - (a : Int)) = (l : Int) := by rw [IntKind.wrap_i64]; omega
  have d1 : ((l : Int).tdiv 4) = (q : Int) := by rw [Int.tdiv_eq_ediv_of_nonneg (by omega)]; omega
  have d2 : IntKind.i64.wrap (q : Int) = (q : Int) := by rw [IntKind.wrap_i64]; omega
  have d3 : IntKind.i64.wrap ((q : Int) * 2) = (q2 : Int) := by rw [IntKind.wrap_i64]; omega
  have d4 : IntKind.i64.wrap ((q : Int) * 3) = (q3 : Int) := by rw [IntKind.wrap_i64]; omega
  have d5 : IntKind.i64.wrap ((a : Int) + (q : Int)) = (i : Int) := by rw [IntKind.wrap_i64]; omega
  have d6 : IntKind.i64.wrap ((a : Int) + (q2 : Int)) = (j : Int) := by rw [IntKind.wrap_i64]; omega
  have d7 : IntKind.i64.wrap ((a : Int) + (q3 : Int)) = (k : Int) := by rw [IntKind.wrap_i64]; omega
  have t8 : (8 : Int) ≤ (l : Int) := by omega
  have HB : Hid (a + 3 ≤ i ∧ i + 3 ≤ j ∧ j + 3 ≤ k ∧ k + 2 < b + 0 + 2 ∧ k < b ∧ (50 ≤ l → a + 12 ≤ i ∧ k + 1 < b)) := ⟨by omega, by omega, by omega, by omega, by omega, fun h => ⟨by omega, by omega⟩⟩
  clear hr hn hl hq hq2 hq3 hi hj hk
  by_cases h50 : 50 ≤ l
  · have t50 : (50 : Int) ≤ (l : Int) := by omega
    go_enter Try.func42, Try.ntmps42
    go_wp2_with fail
    rw [← hw0, ← hsb]
    clear hw0 hsb
    refine (medadj_g H0.out HN.out (by have := HB.out; omega) (by have := HB.out; omega) hz).mono ?_
    rintro e w1 ⟨⟨i', rfl, hi1, hi2⟩, k1⟩
    have H1 := keepH k1
    have HI : Hid (i' ≤ i + 1 ∧ i ≤ i' + 1) := ⟨hi1, hi2⟩
    clear k1 hi1 hi2
    go_wp2_with fail
    refine (medadj_g H1.out HN.out (by have := HB.out; omega) (by have := HB.out; omega) hz).mono ?_
    rintro e w2 ⟨⟨j', rfl, hj1, hj2⟩, k2⟩
    have H2 := keepH k2
    have HJ : Hid (j' ≤ j + 1 ∧ j ≤ j' + 1) := ⟨hj1, hj2⟩
    clear k2 hj1 hj2
    go_wp2_with fail
    refine (medadj_g H2.out HN.out (by have := HB.out.2.2.2.2.2 h50; omega) (by have := HB.out; omega) hz).mono ?_
    rintro e w3 ⟨⟨k', rfl, hk1, hk2⟩, k3⟩
    have H3 := keepH k3
    have HKK : Hid (k' ≤ k + 1 ∧ k ≤ k' + 1) := ⟨hk1, hk2⟩
    clear k3 hk1 hk2
    go_wp2_with fail
    refine (med_g H3.out HN.out (by have := HB.out; have := HI.out; omega) (by have := HB.out; have := HJ.out; omega) (by have := HB.out.2.2.2.2.2 h50; have := HKK.out; omega)).mono ?_
    rintro e w4 ⟨⟨p, rfl, hp⟩, k4⟩
    have H4 := keepH k4
    have HP : Hid (a ≤ p ∧ p < b) := by have := HB.out; have := HB.out.2.2.2.2.2 h50; have := HI.out; have := HJ.out; have := HKK.out; exact ⟨by omega, by omega⟩
    clear k4 hp
    obtain ⟨z, hz4⟩ := H4.out.blk
    have s1 : w4.cell? ⟨sb, 0, none⟩ = some (.int .i64 z) := hz4.cell 0
    clear hz4
    by_cases z0 : z = 0
    · have y0 : (z == 0) = true := by simp [z0]
      clear z0
      go_wp2_with fail
      exact bodyPost_ret (results_tmp2 rfl _ _ _) rfl ⟨⟨p, _, rfl, HP.out.1, HP.out.2⟩, HC.out _ H4.out.chg⟩
    · have y0 : (z == 0) = false := by simpa using z0
      by_cases z1 : z = 12
      · have y1 : (z == 12) = true := by simp [z1]
        clear z0 z1
        go_wp2_with fail
        exact bodyPost_ret (results_tmp2 rfl _ _ _) rfl ⟨⟨p, _, rfl, HP.out.1, HP.out.2⟩, HC.out _ H4.out.chg⟩
      · have y1 : (z == 12) = false := by simpa using z1
        clear z0 z1
        go_wp2_with fail
        exact bodyPost_ret (results_tmp2 rfl _ _ _) rfl ⟨⟨p, _, rfl, HP.out.1, HP.out.2⟩, HC.out _ H4.out.chg⟩
  · have t50 : ¬ (50 : Int) ≤ (l : Int) := by omega
    go_enter Try.func42, Try.ntmps42
    go_wp2_with fail
    rw [← hw0, ← hsb]
    clear hw0 hsb
    refine (med_g H0.out HN.out (by have := HB.out; omega) (by have := HB.out; omega) (by have := HB.out; omega)).mono ?_
    rintro e w4 ⟨⟨p, rfl, hp⟩, k4⟩
    have H4 := keepH k4
    have HP : Hid (a ≤ p ∧ p < b) := by have := HB.out; exact ⟨by omega, by omega⟩
    clear k4 hp
    obtain ⟨z, hz4⟩ := H4.out.blk
    have s1 : w4.cell? ⟨sb, 0, none⟩ = some (.int .i64 z) := hz4.cell 0
    clear hz4
    by_cases z0 : z = 0
    · have y0 : (z == 0) = true := by simp [z0]
      clear z0
      go_wp2_with fail
      exact bodyPost_ret (results_tmp2 rfl _ _ _) rfl ⟨⟨p, _, rfl, HP.out.1, HP.out.2⟩, HC.out _ H4.out.chg⟩
    · have y0 : (z == 0) = false := by simpa using z0
      by_cases z1 : z = 12
      · have y1 : (z == 12) = true := by simp [z1]
        clear z0 z1
        go_wp2_with fail
        exact bodyPost_ret (results_tmp2 rfl _ _ _) rfl ⟨⟨p, _, rfl, HP.out.1, HP.out.2⟩, HC.out _ H4.out.chg⟩
      · have y1 : (z == 12) = false := by simpa using z1
        clear z0 z1
        go_wp2_with fail
        exact bodyPost_ret (results_tmp2 rfl _ _ _) rfl ⟨⟨p, _, rfl, HP.out.1, HP.out.2⟩, HC.out _ H4.out.chg⟩
end Go.Proofs.Ytnlkdibalhgipaa
/- Partial insertion: the same numbers. -/
namespace Go.Proofs.Ytnlkdibalhgipaa
open Go.RowKit
set_option linter.unusedVariables false

set_option maxRecDepth 100000 in
set_option maxHeartbeats 32000000 in
theorem pins_g {W : World} {g c a b : Nat} {zs : List Nat} (hr : RowU W g zs) (hb : b ≤ zs.length) (hz : zs.length ≤ 1152921504606846976) (ha : a < b) :
    Calls Try.prog 44 #[.slice (some ⟨g, 0, none⟩) zs.length c, .int .i64 (a : Int), .int .i64 (b : Int)] W fun e W' => (∃ t : Bool, e = .returned (.bool t)) ∧ Same W g zs W' := by
  have HS := keepH (Same.refl hr)
  clear hr
  obtain ⟨n, hn⟩ : ∃ n, n = zs.length := ⟨_, rfl⟩
  rw [← hn] at hz hb ⊢
  have HN := keepH hn
  clear hn
  obtain ⟨ba, hba0⟩ : ∃ ba, ba = b - a := ⟨_, rfl⟩
  have wba : IntKind.i64.wrap ((b : Int) - (a : Int)) = (ba : Int) := by rw [IntKind.wrap_i64]; omega
  have wa : IntKind.i64.wrap ((a : Int) + 1) = ((a + 1 : Nat) : Int) := by rw [IntKind.wrap_i64]; omega
  clear hba0
  go_enter Try.func44, Try.ntmps44
  go_wp2_with fail
  clear wa
  go_loopw [7, 8] (fun sI sJ wr => ∃ i jj : Nat, a + 1 ≤ i ∧ i ≤ b ∧ jj ≤ 5 ∧ sI = .int .i64 (i : Int) ∧ sJ = .int .i64 (jj : Int) ∧ Hid (Same W g zs wr)) (fun _ sJ _ => 5 - (intOf sJ).toNat)
  case atStart => exact ⟨a + 1, 0, by omega, by omega, by omega, by first | rfl | go_num, by first | rfl | go_num, HS⟩
  case round =>
    obtain ⟨i0, jj, hi01, hi02, hjj, rfl, rfl, HO⟩ := hrel
    by_cases hj5 : jj < 5
    · have t0 : (jj : Int) < 5 := by omega
      go_wp2_with fail
      go_loopw [7] (fun sI wr => ∃ i : Nat, i0 ≤ i ∧ i ≤ b ∧ sI = .int .i64 (i : Int) ∧ Hid (Same W g zs wr)) (fun sI _ => n + 1 - (intOf sI).toNat)
      case atStart => exact ⟨i0, by omega, by omega, by first | rfl | go_num, HO⟩
      case round =>
        obtain ⟨i, hi1, hi2, rfl, HI⟩ := hrel
        obtain ⟨l, hl⟩ : ∃ l, i = l + 1 := ⟨i - 1, by omega⟩
        have wl : IntKind.i64.wrap ((i : Int) - 1) = (l : Int) := by rw [IntKind.wrap_i64]; omega
        have hli : l < i := by omega
        clear hl
        go_upto_region 5 with fail
        go_cut [32] from 17 to 34 (fun sr wz => ∃ t : Bool, sr = .bool t ∧ (t = true → i < b) ∧ Hid (Same W g zs wz))
        case first =>
          by_cases hij : i < b
          · have t1 : (i : Int) < (b : Int) := by omega
            have pn : i < n := by omega
            have qn : l < n := by omega
            obtain ⟨x, y, hT⟩ := HI.out.any (i := i) (j := l) (by rw [← HN.out]; omega) (by rw [← HN.out]; omega)
            have cx := (hT wr (Chg.refl _ _)).out.1
            have cy := (hT wr (Chg.refl _ _)).out.2.1
            clear hT
            cases hlt : decide (x < y) with
            | true =>
              have HLS := keepH (less_is hlt)
              clear hlt
              go_quiet (first | (go_at_call 45; refine (HLS.out _).mono ?_; rintro q r ⟨rfl, rfl⟩; exact ⟨rfl, _, rfl⟩))
              obtain ⟨w5, hw5⟩ : ∃ z : World, z = wr.drewN nq := ⟨_, rfl⟩
              have Ht5 : Hid (Same W g zs w5) := by rw [hw5]; exact HI.out.quiet (drewN_chg wr nq)
              rw [← hw5]
              clear hw5 cx cy HLS HI
              go_wp2_with fail
              go_meet
              exact ⟨false, rfl, fun _ => hij, Ht5⟩
            | false =>
              have HLS := keepH (less_is hlt)
              clear hlt
              go_quiet (first | (go_at_call 45; refine (HLS.out _).mono ?_; rintro q r ⟨rfl, rfl⟩; exact ⟨rfl, _, rfl⟩))
              obtain ⟨w5, hw5⟩ : ∃ z : World, z = wr.drewN nq := ⟨_, rfl⟩
              have Ht5 : Hid (Same W g zs w5) := by rw [hw5]; exact HI.out.quiet (drewN_chg wr nq)
              rw [← hw5]
              clear hw5 cx cy HLS HI
              go_wp2_with fail
              go_meet
              exact ⟨true, rfl, fun _ => hij, Ht5⟩
          · have t1 : ¬ (i : Int) < (b : Int) := by omega
            go_quiet (fail)
            obtain ⟨w9, hw9⟩ : ∃ z : World, z = wr.drewN nq := ⟨_, rfl⟩
            have H9 : Hid (Same W g zs w9) := by rw [hw9]; exact HI.out.quiet (drewN_chg wr nq)
            rw [← hw9]
            clear hw9
            go_wp2_with fail
            go_meet
            exact ⟨false, rfl, fun h => by simp at h, H9⟩
        case rest =>
          obtain ⟨t, rfl, hij, Hs5⟩ := hcut
          cases t with
          | true =>
            have hij : i < b := hij rfl
            have wi : IntKind.i64.wrap ((i : Int) + 1) = ((i + 1 : Nat) : Int) := by rw [IntKind.wrap_i64]; omega
            go_wp2_with fail
            go_roundw
            case rel => exact ⟨i + 1, by omega, by omega, by first | rfl | go_num, Hs5⟩
            case measure => simp [intOf]; omega
          | false =>
            clear hij
            by_cases hib : i = b
            · subst hib
              go_wp2_with fail
              exact bodyPost_ret (results_tmp rfl _ _ _) rfl ⟨⟨true, rfl⟩, Hs5.out⟩
            · have t3 : ((i : Int) == (b : Int)) = false := by simp; omega
              have t3' : ¬ (i : Int) = (b : Int) := by omega
              by_cases hba : ba < 50
              · have t4 : (ba : Int) < 50 := by omega
                go_wp2_with fail
                exact bodyPost_ret (results_tmp rfl _ _ _) rfl ⟨⟨false, rfl⟩, Hs5.out⟩
              · have t4 : ¬ (ba : Int) < 50 := by omega
                obtain ⟨ia, hia0⟩ : ∃ ia, ia = i - a := ⟨_, rfl⟩
                obtain ⟨bi, hbi0⟩ : ∃ bi, bi = b - i := ⟨_, rfl⟩
                have wia : IntKind.i64.wrap ((i : Int) - (a : Int)) = (ia : Int) := by rw [IntKind.wrap_i64]; omega
                have wbi : IntKind.i64.wrap ((b : Int) - (i : Int)) = (bi : Int) := by rw [IntKind.wrap_i64]; omega
                have wi : IntKind.i64.wrap ((i : Int) + 1) = ((i + 1 : Nat) : Int) := by rw [IntKind.wrap_i64]; omega
                have HBI : Hid (bi = b - i) := hbi0
                have i_n : i < n := by omega
                have l_n : l < n := by omega
                have ib : i < b := by omega
                clear hia0 hbi0 hib
                go_upto_region 11 with fail
                obtain ⟨x, y, hT⟩ := Hs5.out.any (i := i) (j := l) (by rw [← HN.out]; omega) (by rw [← HN.out]; omega)
                have HT := keepH hT
                clear hT
                go_cut [] from 42 to 57 (fun wz => Hid (Same W g zs wz))
                case first =>
                  obtain ⟨k1, k2, k3, k4, k5, k7⟩ : _ := (HT.out wc (Chg.refl _ _)).out
                  have k4 := k4 (.int .u64 (y : Int))
                  obtain ⟨u, k5⟩ := k5 (.int .u64 (y : Int))
                  obtain ⟨w9, hw9⟩ : ∃ w9, w9 = ((wc.setCell ⟨g, i, none⟩ (.int .u64 (y : Int))).setCell ⟨g, l, none⟩ (.int .u64 (x : Int))).drew := ⟨_, rfl⟩
                  have H9 : Hid (Same W g zs w9) := by rw [hw9]; exact k7.quiet (Chg.refl _ _).drew
                  clear k7 HT
                  go_region
                  all_goals (
                    rw [← hw9]
                    clear hw9 k1 k2 k3 k4 k5
                    go_wp2_with fail
                    go_meet
                    exact H9)
                case rest =>
                  have Hs11 := hcut
                  clear hcut HT
                  by_cases hia : 2 ≤ ia
                  · have t5 : (2 : Int) ≤ (ia : Int) := by omega
                    go_wp2_with fail
                    go_loopw [9] (fun sK wr => ∃ k : Nat, k ≤ l ∧ sK = .int .i64 (k : Int) ∧ Hid (Same W g zs wr)) (fun sK _ => (intOf sK).toNat)
                    case atStart => exact ⟨l, by omega, by first | rfl | go_num, Hs11⟩
                    case round =>
                      obtain ⟨k, hk, rfl, HK⟩ := hrel
                      by_cases hk1 : 1 ≤ k
                      · have t6 : (1 : Int) ≤ (k : Int) := by omega
                        obtain ⟨kl, hkl⟩ : ∃ kl, k = kl + 1 := ⟨k - 1, by omega⟩
                        have wkl : IntKind.i64.wrap ((k : Int) - 1) = (kl : Int) := by rw [IntKind.wrap_i64]; omega
                        have kn : k < n := by omega
                        have kln : kl < n := by omega
                        have HKL : Hid (k = kl + 1) := hkl
                        clear hkl
                        obtain ⟨x, y, hT⟩ := HK.out.any (i := k) (j := kl) (by rw [← HN.out]; omega) (by rw [← HN.out]; omega)
                        have cx := (hT wr (Chg.refl _ _)).out.1
                        have cy := (hT wr (Chg.refl _ _)).out.2.1
                        clear hT
                        cases hlt : decide (x < y) with
                        | true =>
                          have HLS := keepH (less_is hlt)
                          clear hlt
                          go_upto_region 16 with fail
                          go_quiet (first | (go_at_call 45; refine (HLS.out _).mono ?_; rintro q r ⟨rfl, rfl⟩; exact ⟨rfl, _, rfl⟩))
                          obtain ⟨w16, hw16⟩ : ∃ z : World, z = wr.drewN nq := ⟨_, rfl⟩
                          have Ht16 : Hid (Same W g zs w16) := by rw [hw16]; exact HK.out.quiet (drewN_chg wr nq)
                          rw [← hw16]
                          clear hw16 cx cy HLS HK
                          go_upto_region 17 with fail
                          obtain ⟨x, y, hT⟩ := Ht16.out.any (i := k) (j := kl) (by rw [← HN.out]; omega) (by rw [← HN.out]; omega)
                          obtain ⟨k1, k2, k3, k4, k5, k7⟩ : _ := (hT w16 (Chg.refl _ _)).out
                          have k4 := k4 (.int .u64 (y : Int))
                          obtain ⟨u, k5⟩ := k5 (.int .u64 (y : Int))
                          obtain ⟨w9, hw9⟩ : ∃ w9, w9 = ((w16.setCell ⟨g, k, none⟩ (.int .u64 (y : Int))).setCell ⟨g, kl, none⟩ (.int .u64 (x : Int))).drew := ⟨_, rfl⟩
                          have Hs17 : Hid (Same W g zs w9) := by rw [hw9]; exact k7.quiet (Chg.refl _ _).drew
                          clear k7 hT
                          go_region
                          all_goals (
                            rw [← hw9]
                            clear hw9 k1 k2 k3 k4 k5
                            go_wp2_with fail
                            go_roundw
                            case rel => exact ⟨kl, by have := HKL.out; omega, by first | rfl | go_num, Hs17⟩
                            case measure => have := HKL.out; simp [intOf]; omega)
                        | false =>
                          have HLS := keepH (less_is hlt)
                          clear hlt
                          go_upto_region 16 with fail
                          go_quiet (first | (go_at_call 45; refine (HLS.out _).mono ?_; rintro q r ⟨rfl, rfl⟩; exact ⟨rfl, _, rfl⟩))
                          obtain ⟨w16, hw16⟩ : ∃ z : World, z = wr.drewN nq := ⟨_, rfl⟩
                          have Ht16 : Hid (Same W g zs w16) := by rw [hw16]; exact HK.out.quiet (drewN_chg wr nq)
                          rw [← hw16]
                          clear hw16 cx cy HLS HK
                          by_cases hbi : 2 ≤ bi
                          · have t7 : (2 : Int) ≤ (bi : Int) := by omega
                            go_wp2_with fail
                            go_loopw [10] (fun sM wr => ∃ m : Nat, i + 1 ≤ m ∧ m ≤ b ∧ sM = .int .i64 (m : Int) ∧ Hid (Same W g zs wr)) (fun sM _ => n + 1 - (intOf sM).toNat)
                            case atStart => exact ⟨i + 1, by omega, by have := HBI.out; omega, by first | rfl | go_num, Ht16⟩
                            case round =>
                              obtain ⟨m, hm1, hm2, rfl, HM⟩ := hrel
                              by_cases hmb : m < b
                              · have t8 : (m : Int) < (b : Int) := by omega
                                obtain ⟨ml, hml⟩ : ∃ ml, m = ml + 1 := ⟨m - 1, by omega⟩
                                have wml : IntKind.i64.wrap ((m : Int) - 1) = (ml : Int) := by rw [IntKind.wrap_i64]; omega
                                have wmu : IntKind.i64.wrap ((m : Int) + 1) = ((m + 1 : Nat) : Int) := by rw [IntKind.wrap_i64]; omega
                                have mn : m < n := by omega
                                have mln : ml < n := by omega
                                clear hml
                                obtain ⟨x, y, hT⟩ := HM.out.any (i := m) (j := ml) (by rw [← HN.out]; omega) (by rw [← HN.out]; omega)
                                have cx := (hT wr (Chg.refl _ _)).out.1
                                have cy := (hT wr (Chg.refl _ _)).out.2.1
                                clear hT
                                cases hlt : decide (x < y) with
                                | true =>
                                  have HLS := keepH (less_is hlt)
                                  clear hlt
                                  go_upto_region 22 with fail
                                  go_quiet (first | (go_at_call 45; refine (HLS.out _).mono ?_; rintro q r ⟨rfl, rfl⟩; exact ⟨rfl, _, rfl⟩))
                                  obtain ⟨w22, hw22⟩ : ∃ z : World, z = wr.drewN nq := ⟨_, rfl⟩
                                  have Ht22 : Hid (Same W g zs w22) := by rw [hw22]; exact HM.out.quiet (drewN_chg wr nq)
                                  rw [← hw22]
                                  clear hw22 cx cy HLS HM
                                  go_upto_region 23 with fail
                                  obtain ⟨x, y, hT⟩ := Ht22.out.any (i := m) (j := ml) (by rw [← HN.out]; omega) (by rw [← HN.out]; omega)
                                  obtain ⟨k1, k2, k3, k4, k5, k7⟩ : _ := (hT w22 (Chg.refl _ _)).out
                                  have k4 := k4 (.int .u64 (y : Int))
                                  obtain ⟨u, k5⟩ := k5 (.int .u64 (y : Int))
                                  obtain ⟨w9, hw9⟩ : ∃ w9, w9 = ((w22.setCell ⟨g, m, none⟩ (.int .u64 (y : Int))).setCell ⟨g, ml, none⟩ (.int .u64 (x : Int))).drew := ⟨_, rfl⟩
                                  have Hs23 : Hid (Same W g zs w9) := by rw [hw9]; exact k7.quiet (Chg.refl _ _).drew
                                  clear k7 hT
                                  go_region
                                  all_goals (
                                    rw [← hw9]
                                    clear hw9 k1 k2 k3 k4 k5
                                    go_wp2_with fail
                                    go_roundw
                                    case rel => exact ⟨m + 1, by omega, by omega, by first | rfl | go_num, Hs23⟩
                                    case measure => simp [intOf]; omega)
                                | false =>
                                  have HLS := keepH (less_is hlt)
                                  clear hlt
                                  go_upto_region 22 with fail
                                  go_quiet (first | (go_at_call 45; refine (HLS.out _).mono ?_; rintro q r ⟨rfl, rfl⟩; exact ⟨rfl, _, rfl⟩))
                                  obtain ⟨w22, hw22⟩ : ∃ z : World, z = wr.drewN nq := ⟨_, rfl⟩
                                  have Ht22 : Hid (Same W g zs w22) := by rw [hw22]; exact HM.out.quiet (drewN_chg wr nq)
                                  rw [← hw22]
                                  clear hw22 cx cy HLS HM
                                  have wjj : IntKind.i64.wrap ((jj : Int) + 1) = ((jj + 1 : Nat) : Int) := by rw [IntKind.wrap_i64]; omega
                                  go_wp2_with fail
                                  go_roundw
                                  case rel => exact ⟨i, jj + 1, by omega, by omega, by omega, by first | rfl | go_num, by first | rfl | go_num, Ht22⟩
                                  case measure => simp [intOf]; omega
                              · have t8 : ¬ (m : Int) < (b : Int) := by omega
                                have wjj : IntKind.i64.wrap ((jj : Int) + 1) = ((jj + 1 : Nat) : Int) := by rw [IntKind.wrap_i64]; omega
                                go_wp2_with fail
                                go_roundw
                                case rel => exact ⟨i, jj + 1, by omega, by omega, by omega, by first | rfl | go_num, by first | rfl | go_num, HM⟩
                                case measure => simp [intOf]; omega
                          · have t7 : ¬ (2 : Int) ≤ (bi : Int) := by omega
                            have wjj : IntKind.i64.wrap ((jj : Int) + 1) = ((jj + 1 : Nat) : Int) := by rw [IntKind.wrap_i64]; omega
                            go_wp2_with fail
                            go_roundw
                            case rel => exact ⟨i, jj + 1, by omega, by omega, by omega, by first | rfl | go_num, by first | rfl | go_num, Ht16⟩
                            case measure => simp [intOf]; omega
                      · have t6 : ¬ (1 : Int) ≤ (k : Int) := by omega
                        by_cases hbi : 2 ≤ bi
                        · have t7 : (2 : Int) ≤ (bi : Int) := by omega
                          go_wp2_with fail
                          go_loopw [10] (fun sM wr => ∃ m : Nat, i + 1 ≤ m ∧ m ≤ b ∧ sM = .int .i64 (m : Int) ∧ Hid (Same W g zs wr)) (fun sM _ => n + 1 - (intOf sM).toNat)
                          case atStart => exact ⟨i + 1, by omega, by have := HBI.out; omega, by first | rfl | go_num, HK⟩
                          case round =>
                            obtain ⟨m, hm1, hm2, rfl, HM⟩ := hrel
                            by_cases hmb : m < b
                            · have t8 : (m : Int) < (b : Int) := by omega
                              obtain ⟨ml, hml⟩ : ∃ ml, m = ml + 1 := ⟨m - 1, by omega⟩
                              have wml : IntKind.i64.wrap ((m : Int) - 1) = (ml : Int) := by rw [IntKind.wrap_i64]; omega
                              have wmu : IntKind.i64.wrap ((m : Int) + 1) = ((m + 1 : Nat) : Int) := by rw [IntKind.wrap_i64]; omega
                              have mn : m < n := by omega
                              have mln : ml < n := by omega
                              clear hml
                              obtain ⟨x, y, hT⟩ := HM.out.any (i := m) (j := ml) (by rw [← HN.out]; omega) (by rw [← HN.out]; omega)
                              have cx := (hT wr (Chg.refl _ _)).out.1
                              have cy := (hT wr (Chg.refl _ _)).out.2.1
                              clear hT
                              cases hlt : decide (x < y) with
                              | true =>
                                have HLS := keepH (less_is hlt)
                                clear hlt
                                go_upto_region 22 with fail
                                go_quiet (first | (go_at_call 45; refine (HLS.out _).mono ?_; rintro q r ⟨rfl, rfl⟩; exact ⟨rfl, _, rfl⟩))
                                obtain ⟨w22, hw22⟩ : ∃ z : World, z = wr.drewN nq := ⟨_, rfl⟩
                                have Ht22 : Hid (Same W g zs w22) := by rw [hw22]; exact HM.out.quiet (drewN_chg wr nq)
                                rw [← hw22]
                                clear hw22 cx cy HLS HM
                                go_upto_region 23 with fail
                                obtain ⟨x, y, hT⟩ := Ht22.out.any (i := m) (j := ml) (by rw [← HN.out]; omega) (by rw [← HN.out]; omega)
                                obtain ⟨k1, k2, k3, k4, k5, k7⟩ : _ := (hT w22 (Chg.refl _ _)).out
                                have k4 := k4 (.int .u64 (y : Int))
                                obtain ⟨u, k5⟩ := k5 (.int .u64 (y : Int))
                                obtain ⟨w9, hw9⟩ : ∃ w9, w9 = ((w22.setCell ⟨g, m, none⟩ (.int .u64 (y : Int))).setCell ⟨g, ml, none⟩ (.int .u64 (x : Int))).drew := ⟨_, rfl⟩
                                have Hs23 : Hid (Same W g zs w9) := by rw [hw9]; exact k7.quiet (Chg.refl _ _).drew
                                clear k7 hT
                                go_region
                                all_goals (
                                  rw [← hw9]
                                  clear hw9 k1 k2 k3 k4 k5
                                  go_wp2_with fail
                                  go_roundw
                                  case rel => exact ⟨m + 1, by omega, by omega, by first | rfl | go_num, Hs23⟩
                                  case measure => simp [intOf]; omega)
                              | false =>
                                have HLS := keepH (less_is hlt)
                                clear hlt
                                go_upto_region 22 with fail
                                go_quiet (first | (go_at_call 45; refine (HLS.out _).mono ?_; rintro q r ⟨rfl, rfl⟩; exact ⟨rfl, _, rfl⟩))
                                obtain ⟨w22, hw22⟩ : ∃ z : World, z = wr.drewN nq := ⟨_, rfl⟩
                                have Ht22 : Hid (Same W g zs w22) := by rw [hw22]; exact HM.out.quiet (drewN_chg wr nq)
                                rw [← hw22]
                                clear hw22 cx cy HLS HM
                                have wjj : IntKind.i64.wrap ((jj : Int) + 1) = ((jj + 1 : Nat) : Int) := by rw [IntKind.wrap_i64]; omega
                                go_wp2_with fail
                                go_roundw
                                case rel => exact ⟨i, jj + 1, by omega, by omega, by omega, by first | rfl | go_num, by first | rfl | go_num, Ht22⟩
                                case measure => simp [intOf]; omega
                            · have t8 : ¬ (m : Int) < (b : Int) := by omega
                              have wjj : IntKind.i64.wrap ((jj : Int) + 1) = ((jj + 1 : Nat) : Int) := by rw [IntKind.wrap_i64]; omega
                              go_wp2_with fail
                              go_roundw
                              case rel => exact ⟨i, jj + 1, by omega, by omega, by omega, by first | rfl | go_num, by first | rfl | go_num, HM⟩
                              case measure => simp [intOf]; omega
                        · have t7 : ¬ (2 : Int) ≤ (bi : Int) := by omega
                          have wjj : IntKind.i64.wrap ((jj : Int) + 1) = ((jj + 1 : Nat) : Int) := by rw [IntKind.wrap_i64]; omega
                          go_wp2_with fail
                          go_roundw
                          case rel => exact ⟨i, jj + 1, by omega, by omega, by omega, by first | rfl | go_num, by first | rfl | go_num, HK⟩
                          case measure => simp [intOf]; omega
                  · have t5 : ¬ (2 : Int) ≤ (ia : Int) := by omega
                    by_cases hbi : 2 ≤ bi
                    · have t7 : (2 : Int) ≤ (bi : Int) := by omega
                      go_wp2_with fail
                      go_loopw [10] (fun sM wr => ∃ m : Nat, i + 1 ≤ m ∧ m ≤ b ∧ sM = .int .i64 (m : Int) ∧ Hid (Same W g zs wr)) (fun sM _ => n + 1 - (intOf sM).toNat)
                      case atStart => exact ⟨i + 1, by omega, by have := HBI.out; omega, by first | rfl | go_num, Hs11⟩
                      case round =>
                        obtain ⟨m, hm1, hm2, rfl, HM⟩ := hrel
                        by_cases hmb : m < b
                        · have t8 : (m : Int) < (b : Int) := by omega
                          obtain ⟨ml, hml⟩ : ∃ ml, m = ml + 1 := ⟨m - 1, by omega⟩
                          have wml : IntKind.i64.wrap ((m : Int) - 1) = (ml : Int) := by rw [IntKind.wrap_i64]; omega
                          have wmu : IntKind.i64.wrap ((m : Int) + 1) = ((m + 1 : Nat) : Int) := by rw [IntKind.wrap_i64]; omega
                          have mn : m < n := by omega
                          have mln : ml < n := by omega
                          clear hml
                          obtain ⟨x, y, hT⟩ := HM.out.any (i := m) (j := ml) (by rw [← HN.out]; omega) (by rw [← HN.out]; omega)
                          have cx := (hT wr (Chg.refl _ _)).out.1
                          have cy := (hT wr (Chg.refl _ _)).out.2.1
                          clear hT
                          cases hlt : decide (x < y) with
                          | true =>
                            have HLS := keepH (less_is hlt)
                            clear hlt
                            go_upto_region 22 with fail
                            go_quiet (first | (go_at_call 45; refine (HLS.out _).mono ?_; rintro q r ⟨rfl, rfl⟩; exact ⟨rfl, _, rfl⟩))
                            obtain ⟨w22, hw22⟩ : ∃ z : World, z = wr.drewN nq := ⟨_, rfl⟩
                            have Ht22 : Hid (Same W g zs w22) := by rw [hw22]; exact HM.out.quiet (drewN_chg wr nq)
                            rw [← hw22]
                            clear hw22 cx cy HLS HM
                            go_upto_region 23 with fail
                            obtain ⟨x, y, hT⟩ := Ht22.out.any (i := m) (j := ml) (by rw [← HN.out]; omega) (by rw [← HN.out]; omega)
                            obtain ⟨k1, k2, k3, k4, k5, k7⟩ : _ := (hT w22 (Chg.refl _ _)).out
                            have k4 := k4 (.int .u64 (y : Int))
                            obtain ⟨u, k5⟩ := k5 (.int .u64 (y : Int))
                            obtain ⟨w9, hw9⟩ : ∃ w9, w9 = ((w22.setCell ⟨g, m, none⟩ (.int .u64 (y : Int))).setCell ⟨g, ml, none⟩ (.int .u64 (x : Int))).drew := ⟨_, rfl⟩
                            have Hs23 : Hid (Same W g zs w9) := by rw [hw9]; exact k7.quiet (Chg.refl _ _).drew
                            clear k7 hT
                            go_region
                            all_goals (
                              rw [← hw9]
                              clear hw9 k1 k2 k3 k4 k5
                              go_wp2_with fail
                              go_roundw
                              case rel => exact ⟨m + 1, by omega, by omega, by first | rfl | go_num, Hs23⟩
                              case measure => simp [intOf]; omega)
                          | false =>
                            have HLS := keepH (less_is hlt)
                            clear hlt
                            go_upto_region 22 with fail
                            go_quiet (first | (go_at_call 45; refine (HLS.out _).mono ?_; rintro q r ⟨rfl, rfl⟩; exact ⟨rfl, _, rfl⟩))
                            obtain ⟨w22, hw22⟩ : ∃ z : World, z = wr.drewN nq := ⟨_, rfl⟩
                            have Ht22 : Hid (Same W g zs w22) := by rw [hw22]; exact HM.out.quiet (drewN_chg wr nq)
                            rw [← hw22]
                            clear hw22 cx cy HLS HM
                            have wjj : IntKind.i64.wrap ((jj : Int) + 1) = ((jj + 1 : Nat) : Int) := by rw [IntKind.wrap_i64]; omega
                            go_wp2_with fail
                            go_roundw
                            case rel => exact ⟨i, jj + 1, by omega, by omega, by omega, by first | rfl | go_num, by first | rfl | go_num, Ht22⟩
                            case measure => simp [intOf]; omega
                        · have t8 : ¬ (m : Int) < (b : Int) := by omega
                          have wjj : IntKind.i64.wrap ((jj : Int) + 1) = ((jj + 1 : Nat) : Int) := by rw [IntKind.wrap_i64]; omega
                          go_wp2_with fail
                          go_roundw
                          case rel => exact ⟨i, jj + 1, by omega, by omega, by omega, by first | rfl | go_num, by first | rfl | go_num, HM⟩
                          case measure => simp [intOf]; omega
                    · have t7 : ¬ (2 : Int) ≤ (bi : Int) := by omega
                      have wjj : IntKind.i64.wrap ((jj : Int) + 1) = ((jj + 1 : Nat) : Int) := by rw [IntKind.wrap_i64]; omega
                      go_wp2_with fail
                      go_roundw
                      case rel => exact ⟨i, jj + 1, by omega, by omega, by omega, by first | rfl | go_num, by first | rfl | go_num, Hs11⟩
                      case measure => simp [intOf]; omega
    · have t0 : ¬ (jj : Int) < 5 := by omega
      go_wp2_with fail
      exact bodyPost_ret (results_tmp rfl _ _ _) rfl ⟨.inl rfl, HO.out⟩
end Go.Proofs.Ytnlkdibalhgipaa
/- bits.Len of small numbers. -/
namespace Go.Proofs.Ytnlkdibalhgipaa
open Go.RowKit Go.Lib
set_option linter.unusedVariables false

theorem len8_small : ∀ x : Fin 256, x.val < 2 ^ (len8 (x.val : Int)).toNat ∧ (1 ≤ x.val → 2 ^ (len8 (x.val : Int)).toNat ≤ 2 * x.val) ∧ 0 ≤ len8 (x.val : Int) ∧ len8 (x.val : Int) ≤ 8 := by decide +kernel
theorem len8_is {x : Nat} (h : x < 256) : ∃ k : Nat, len8 (x : Int) = (k : Int) ∧ x < 2 ^ k ∧ (1 ≤ x → 2 ^ k ≤ 2 * x) ∧ k ≤ 8 := by
  obtain ⟨h1, h2, h3, h4⟩ := len8_small ⟨x, h⟩
  exact ⟨(len8 (x : Int)).toNat, by simp only at h3; omega, h1, h2, by simp only at h4; omega⟩
set_option maxRecDepth 100000 in
set_option maxHeartbeats 4000000 in
theorem len64_a {n : Nat} (hn : n < 256) (W : World) : Calls Try.prog 49 #[.int .u64 (n : Int)] W fun e W' => (∃ k : Nat, e = .returned (.int .i64 (k : Int)) ∧ n < 2 ^ k ∧ (1 ≤ n → 2 ^ k ≤ 2 * n) ∧ k ≤ 8) ∧ W' = W := by
  obtain ⟨k, hk, hp⟩ := len8_is hn
  have HP := keepH hp
  have t1 : ¬ (4294967296 : Int) ≤ (n : Int) := by omega
  have t2 : ¬ (65536 : Int) ≤ (n : Int) := by omega
  have t3 : ¬ (256 : Int) ≤ (n : Int) := by omega
  have z0 : (0 : Int) ≤ (n : Int) := by omega
  have z1 : (n : Int) ≤ 255 := by omega
  have w8 : IntKind.u8.wrap (n : Int) = (n : Int) := by unfold IntKind.wrap; simp [IntKind.bits, IntKind.signed]; omega
  have wk : IntKind.i64.wrap (k : Int) = (k : Int) := by rw [IntKind.wrap_i64]; have := hp.2.2; omega
  clear hp
  go_enter Try.func49, Try.ntmps49
  go_wp2_with fail
  exact bodyPost_ret (results_tmp rfl _ _ _) rfl ⟨⟨k, rfl, HP.out.1, HP.out.2.1, HP.out.2.2⟩, rfl⟩
theorem two_mul_pow {m n k : Nat} (hm : m = n / 256) (h1 : m < 2 ^ k) (h2 : 2 ^ k ≤ 2 * m) : n < 2 ^ (k + 8) ∧ 2 ^ (k + 8) ≤ 2 * n := by
  have e : 2 ^ (k + 8) = 2 ^ k * 256 := by rw [Nat.pow_add]
  rw [e]
  omega
set_option maxRecDepth 100000 in
set_option maxHeartbeats 4000000 in
theorem len64_b {n : Nat} (hn : n < 65536) (hn2 : 256 ≤ n) (W : World) : Calls Try.prog 49 #[.int .u64 (n : Int)] W fun e W' => (∃ k : Nat, e = .returned (.int .i64 (k : Int)) ∧ n < 2 ^ k ∧ (1 ≤ n → 2 ^ k ≤ 2 * n) ∧ k ≤ 16) ∧ W' = W := by
  obtain ⟨m, hm⟩ : ∃ m, m = n / 256 := ⟨_, rfl⟩
  obtain ⟨k, hk, hp⟩ := len8_is (x := m) (by omega)
  obtain ⟨k8, hk8⟩ : ∃ k8, k8 = k + 8 := ⟨_, rfl⟩
  have HP : Hid (n < 2 ^ k8 ∧ 2 ^ k8 ≤ 2 * n ∧ k8 ≤ 16) := by
    have := two_mul_pow hm hp.1 (hp.2.1 (by omega))
    rw [hk8]
    exact ⟨this.1, this.2, by omega⟩
  have t1 : ¬ (4294967296 : Int) ≤ (n : Int) := by omega
  have t2 : ¬ (65536 : Int) ≤ (n : Int) := by omega
  have t3 : (256 : Int) ≤ (n : Int) := by omega
  have z0 : (0 : Int) ≤ (m : Int) := by omega
  have z1 : (m : Int) ≤ 255 := by omega
  have d1 : (n : Int) / 256 = (m : Int) := by omega
  have w8 : IntKind.u8.wrap (m : Int) = (m : Int) := by unfold IntKind.wrap; simp [IntKind.bits, IntKind.signed]; omega
  have wk : IntKind.i64.wrap (k : Int) = (k : Int) := by rw [IntKind.wrap_i64]; have := hp.2.2; omega
  have wk8 : IntKind.i64.wrap (8 + (k : Int)) = (k8 : Int) := by rw [IntKind.wrap_i64]; have := hp.2.2; omega
  clear hp hm hk8
  go_enter Try.func49, Try.ntmps49
  go_wp2_with fail
  exact bodyPost_ret (results_tmp rfl _ _ _) rfl ⟨⟨k8, rfl, HP.out.1, fun _ => HP.out.2.1, HP.out.2.2⟩, rfl⟩
end Go.Proofs.Ytnlkdibalhgipaa
/- bits.Len, the next power of two, xorshift. -/
namespace Go.Proofs.Ytnlkdibalhgipaa
open Go.RowKit Go.Lib
set_option linter.unusedVariables false

theorem len64_s {n : Nat} (hn : n < 65536) (W : World) : Calls Try.prog 49 #[.int .u64 (n : Int)] W fun e W' => (∃ k : Nat, e = .returned (.int .i64 (k : Int)) ∧ n < 2 ^ k ∧ (1 ≤ n → 2 ^ k ≤ 2 * n) ∧ k ≤ 16) ∧ W' = W := by
  by_cases h : n < 256
  · refine (len64_a h W).mono ?_
    rintro e w ⟨⟨k, rfl, h1, h2, h3⟩, rfl⟩
    exact ⟨⟨k, rfl, h1, h2, by omega⟩, rfl⟩
  · exact len64_b hn (by omega) W
theorem wu64 (n : Nat) (hn : n < 18446744073709551616) : IntKind.u64.wrap (n : Int) = (n : Int) := by unfold IntKind.wrap; simp [IntKind.bits, IntKind.signed]; omega
set_option maxRecDepth 100000 in
theorem len_s {n : Nat} (hn : n < 65536) (W : World) : Calls Try.prog 36 #[.int .u64 (n : Int)] W fun e W' => (∃ k : Nat, e = .returned (.int .i64 (k : Int)) ∧ n < 2 ^ k ∧ (1 ≤ n → 2 ^ k ≤ 2 * n) ∧ k ≤ 16) ∧ W' = W := by
  have w1 := wu64 n (by omega)
  go_enter Try.func36, Try.ntmps36
  go_wp2_with fail
  refine (len64_s hn _).mono ?_
  rintro e W' ⟨⟨k, rfl, hk⟩, rfl⟩
  have HK := keepH hk
  clear hk
  go_wp2_with fail
  exact bodyPost_ret (results_tmp rfl _ _ _) rfl ⟨⟨k, rfl, HK.out.1, HK.out.2.1, HK.out.2.2⟩, rfl⟩
set_option maxRecDepth 100000 in
theorem npot_s {n : Nat} (hn : n < 65536) (h1 : 1 ≤ n) (W : World) : Calls Try.prog 60 #[.int .i64 (n : Int)] W fun e W' => (∃ p : Nat, e = .returned (.int .u64 (p : Int)) ∧ n < p ∧ p ≤ 2 * n) ∧ W' = W := by
  have w1 := wu64 n (by omega)
  go_enter Try.func60, Try.ntmps60
  go_wp2_with fail
  refine (len_s hn _).mono ?_
  rintro e W' ⟨⟨k, rfl, hk⟩, rfl⟩
  obtain ⟨p, hp⟩ : ∃ p, p = 2 ^ k := ⟨_, rfl⟩
  have HP : Hid (n < p ∧ p ≤ 2 * n) := by rw [hp]; exact ⟨hk.1, hk.2.1 h1⟩
  have k1 : (k : Int) < 64 := by omega
  have k0 : (0 : Int) ≤ (k : Int) := by omega
  have e1 : ((2 : Int) ^ k) = (p : Int) := by rw [hp]; simp
  have w2 := wu64 p (by have := HP.out; omega)
  clear hk hp
  go_wp2_with fail
  exact bodyPost_ret (results_tmp rfl _ _ _) rfl ⟨⟨p, rfl, HP.out.1, HP.out.2⟩, rfl⟩
end Go.Proofs.Ytnlkdibalhgipaa
/- xorshift. -/
namespace Go.Proofs.Ytnlkdibalhgipaa
open Go.RowKit Go.Lib
set_option linter.unusedVariables false

theorem bits_is (op : BinOp) (a b : Int) : ∃ r : Nat, bits op .u64 a b = (r : Int) ∧ r < 18446744073709551616 := by
  have h1 := bits_lo_u64 op a b
  have h2 := bits_hi_u64 op a b
  exact ⟨(bits op .u64 a b).toNat, by omega, by omega⟩
set_option maxRecDepth 100000 in
set_option maxHeartbeats 4000000 in
theorem xor_s {W : World} {p x : Nat} (hp : Blk W p 104 [.int .u64 (x : Int)]) : Calls Try.prog 61 #[.pointer (some ⟨p, 0, none⟩)] W fun e W' => (∃ r : Nat, e = .returned (.int .u64 (r : Int)) ∧ r < 18446744073709551616 ∧ Blk W' p 104 [.int .u64 (r : Int)]) ∧ Chg (fun k => k = p) W W' := by
  obtain ⟨x1, e1, _⟩ := bits_is .xor (x : Int) (IntKind.u64.wrap ((x : Int) * 8192))
  obtain ⟨x2, e2, _⟩ := bits_is .xor (x1 : Int) ((x1 : Int) / 128)
  obtain ⟨x3, e3, h3⟩ := bits_is .xor (x2 : Int) (IntKind.u64.wrap ((x2 : Int) * 131072))
  have H3 := keepH h3
  have E2 := keepH e2
  have E3 := keepH e3
  have HP := keepH hp
  have HC : Hid (Chg (fun k => k = p) W W) := Chg.refl _ _
  have c0 : W.cell? ⟨p, 0, none⟩ = some (.int .u64 (x : Int)) := hp.cell 0
  have f0 := hp.free 0
  clear hp h3 e2 e3
  go_enter Try.func61, Try.ntmps61
  obtain ⟨w1, hw1⟩ : ∃ z : World, z = (W.setCell ⟨p, 0, none⟩ (.int .u64 (x1 : Int))).drew := ⟨_, rfl⟩
  have HB1 : Hid (Blk w1 p 104 [.int .u64 (x1 : Int)]) := by rw [hw1]; exact (HP.out.set 0 (.int .u64 (x1 : Int))).chg (F := fun _ => False) (Chg.refl _ _).drew (fun x => x)
  have HC1 : Hid (Chg (fun k => k = p) W w1) := by rw [hw1]; exact (HC.out.p (setP _)).pf (Chg.refl _ _).drew
  go_upto_region 1 with fail
  go_region
  all_goals (
  rw [← hw1]
  clear hw1 c0 f0 e1 HP
  have c0 : w1.cell? ⟨p, 0, none⟩ = some (.int .u64 (x1 : Int)) := HB1.out.cell 0
  have f0 := HB1.out.free 0
  have e1 := E2.out
  obtain ⟨w2, hw2⟩ : ∃ z : World, z = (w1.setCell ⟨p, 0, none⟩ (.int .u64 (x2 : Int))).drew := ⟨_, rfl⟩
  have HB2 : Hid (Blk w2 p 104 [.int .u64 (x2 : Int)]) := by rw [hw2]; exact (HB1.out.set 0 (.int .u64 (x2 : Int))).chg (F := fun _ => False) (Chg.refl _ _).drew (fun x => x)
  have HC2 : Hid (Chg (fun k => k = p) W w2) := by rw [hw2]; exact (HC1.out.p (setP _)).pf (Chg.refl _ _).drew
  go_upto_region 2 with fail
  go_region
  all_goals (
  rw [← hw2]
  clear hw2 c0 f0 e1 HB1
  have c0 : w2.cell? ⟨p, 0, none⟩ = some (.int .u64 (x2 : Int)) := HB2.out.cell 0
  have f0 := HB2.out.free 0
  have e1 := E3.out
  obtain ⟨w3, hw3⟩ : ∃ z : World, z = (w2.setCell ⟨p, 0, none⟩ (.int .u64 (x3 : Int))).drew := ⟨_, rfl⟩
  have HB3 : Hid (Blk w3 p 104 [.int .u64 (x3 : Int)]) := by rw [hw3]; exact (HB2.out.set 0 (.int .u64 (x3 : Int))).chg (F := fun _ => False) (Chg.refl _ _).drew (fun x => x)
  have HC3 : Hid (Chg (fun k => k = p) W w3) := by rw [hw3]; exact (HC2.out.p (setP _)).pf (Chg.refl _ _).drew
  go_upto_region 3 with fail
  go_region
  all_goals (
  rw [← hw3]
  clear hw3 c0 f0 e1 HB2
  have c0 : w3.cell? ⟨p, 0, none⟩ = some (.int .u64 (x3 : Int)) := HB3.out.cell 0
  have f0 := HB3.out.free 0
  go_wp2_with fail
  exact bodyPost_ret (results_tmp rfl _ _ _) rfl ⟨⟨x3, rfl, H3.out, HB3.out⟩, HC3.out⟩)))
end Go.Proofs.Ytnlkdibalhgipaa
/- Patterns broken: the same numbers. -/
namespace Go.Proofs.Ytnlkdibalhgipaa
open Go.RowKit Go.Lib
set_option linter.unusedVariables false

/-- The same numbers, beside a generator of its own. -/
structure BX (W w0 w : World) (g : Nat) (zs : List Nat) (rb : Nat) : Prop where
  row : ∃ zs' : List Nat, zs'.Perm zs ∧ RowU w g zs'
  gen : ∃ x : Nat, Blk w rb 104 [.int .u64 (x : Int)]
  ne : ¬ g = rb
  new : rb = W.heap.size
  pre : Chg (fun _ => False) W w0
  chg : Chg (fun k => k = g ∨ k = rb) w0 w
theorem BX.ends {W w0 w : World} {g : Nat} {zs : List Nat} {rb : Nat} (h : BX W w0 w g zs rb) : Same W g zs w := by
  obtain ⟨zs', P, R⟩ := h.row
  exact ⟨zs', P, R, h.pre.trans h.chg (fun _ _ x => x.elim) (fun i hi e => by rcases e with e | e; exact e; exact absurd hi (by have := h.new; omega))⟩
theorem BX.quiet {W w0 w w' : World} {g : Nat} {zs : List Nat} {rb : Nat} (h : BX W w0 w g zs rb) (c : Chg (fun _ => False) w w') : BX W w0 w' g zs rb := by
  obtain ⟨zs', P, R⟩ := h.row
  obtain ⟨x, hx⟩ := h.gen
  exact ⟨⟨zs', P, R.chg c (fun x => x)⟩, ⟨x, hx.chg c (fun x => x)⟩, h.ne, h.new, h.pre, h.chg.trans c (fun _ _ x => x) (fun _ _ x => x.elim)⟩
theorem BX.rnd {W w0 w w' : World} {g : Nat} {zs : List Nat} {rb r : Nat} (h : BX W w0 w g zs rb) (hb : Blk w' rb 104 [.int .u64 (r : Int)]) (c : Chg (fun k => k = rb) w w') : BX W w0 w' g zs rb := by
  obtain ⟨zs', P, R⟩ := h.row
  exact ⟨⟨zs', P, R.chg c h.ne⟩, ⟨r, hb⟩, h.ne, h.new, h.pre, h.chg.trans c (fun _ _ x => x) (fun _ _ x => .inr x)⟩
theorem BX.any {W w0 w : World} {g : Nat} {zs : List Nat} {rb : Nat} (h : BX W w0 w g zs rb) {i j : Nat} (hi : i < zs.length) (hj : j < zs.length) :
    ∃ x y : Nat, Hid (w.cell? ⟨g, i, none⟩ = some (.int .u64 (x : Int)) ∧ w.cell? ⟨g, j, none⟩ = some (.int .u64 (y : Int)) ∧ w.frozen? ⟨g, i, none⟩ = false ∧ (∀ v, (w.setCell ⟨g, i, none⟩ v).frozen? ⟨g, j, none⟩ = false) ∧ (∀ v, ∃ u, (w.setCell ⟨g, i, none⟩ v).cell? ⟨g, j, none⟩ = some u)
      ∧ BX W w0 ((w.setCell ⟨g, i, none⟩ (.int .u64 (y : Int))).setCell ⟨g, j, none⟩ (.int .u64 (x : Int))) g zs rb) := by
  obtain ⟨zs', P, R⟩ := h.row
  have hl := P.length_eq
  obtain ⟨x, y, hT⟩ := (Same.refl R).any (i := i) (j := j) (by omega) (by omega)
  obtain ⟨k1, k2, k3, k4, k5, k7⟩ : _ := (hT w (Chg.refl _ _)).out
  refine ⟨x, y, k1, k2, k3, k4, k5, ?_⟩
  obtain ⟨zt, P2, R2, C2⟩ := k7
  obtain ⟨z, hz⟩ := h.gen
  exact ⟨⟨zt, P2.trans P, R2⟩, ⟨z, hz.chg C2 (fun e => h.ne e.symm)⟩, h.ne, h.new, h.pre, h.chg.trans C2 (fun _ _ x => x) (fun _ _ x => .inl x)⟩
set_option maxRecDepth 100000 in
set_option maxHeartbeats 8000000 in
theorem break_g {W : World} {g c a b : Nat} {zs : List Nat} (hr : RowU W g zs) (hb : b ≤ zs.length) (hz : zs.length ≤ 60000) (ha : a + 12 < b) :
    Calls Try.prog 41 #[.slice (some ⟨g, 0, none⟩) zs.length c, .int .i64 (a : Int), .int .i64 (b : Int)] W fun e W' => e = .returned (.tuple #[]) ∧ Same W g zs W' := by
  obtain ⟨n, hn⟩ : ∃ n, n = zs.length := ⟨_, rfl⟩
  rw [← hn] at hz hb ⊢
  have HN := keepH hn
  obtain ⟨l, hl⟩ : ∃ l, l = b - a := ⟨_, rfl⟩
  obtain ⟨q, hq⟩ : ∃ q, q = l / 4 := ⟨_, rfl⟩
  obtain ⟨q2, hq2⟩ : ∃ q2, q2 = q * 2 := ⟨_, rfl⟩
  obtain ⟨j, hj⟩ : ∃ j, j = a + q2 := ⟨_, rfl⟩
  obtain ⟨j0, hj0⟩ : ∃ j0, j = j0 + 1 := ⟨j - 1, by omega⟩
  obtain ⟨j2, hj2⟩ : ∃ j2, j2 = j + 1 := ⟨_, rfl⟩
  have w1 : IntKind.i64.wrap ((b : Int) - (a : Int)) = (l : Int) := by rw [IntKind.wrap_i64]; omega
  have wl := wu64 l (by omega)
  have d1 : ((l : Int).tdiv 4) = (q : Int) := by rw [Int.tdiv_eq_ediv_of_nonneg (by omega)]; omega
  have d2 : IntKind.i64.wrap (q : Int) = (q : Int) := by rw [IntKind.wrap_i64]; omega
  have d3 : IntKind.i64.wrap ((q : Int) * 2) = (q2 : Int) := by rw [IntKind.wrap_i64]; omega
  have d4 : IntKind.i64.wrap ((a : Int) + (q2 : Int)) = (j : Int) := by rw [IntKind.wrap_i64]; omega
  have d5 : IntKind.i64.wrap ((j : Int) - 1) = (j0 : Int) := by rw [IntKind.wrap_i64]; omega
  have d6 : IntKind.i64.wrap ((j : Int) + 1) = (j2 : Int) := by rw [IntKind.wrap_i64]; omega
  have t8 : (8 : Int) ≤ (l : Int) := by omega
  have HB : Hid (l = b - a ∧ j2 < b ∧ a ≤ j0 ∧ j2 = j0 + 2) := ⟨hl, by omega, by omega, by omega⟩
  obtain ⟨rb, hrb⟩ : ∃ rb, rb = W.heap.size := ⟨_, rfl⟩
  obtain ⟨w0, hw0⟩ : ∃ w0, w0 = W.alloc (.cells #[.int .u64 (l : Int)] 104) := ⟨_, rfl⟩
  have H0 : Hid (BX W w0 w0 g zs rb) := by
    have lt : g < W.heap.size := by obtain ⟨rest, B⟩ := hr; exact lt_of B
    refine ⟨⟨zs, List.Perm.refl _, ?_⟩, ⟨l, ?_⟩, by omega, hrb, ?_, Chg.refl _ _⟩
    · rw [hw0]; exact hr.chg (F := fun _ => False) ((Chg.refl _ _).alloc _) (fun x => x)
    · rw [hw0, hrb]; exact heap_alloc_new _ _
    · rw [hw0]; exact (Chg.refl _ _).alloc _
  have HL : Hid (l < 65536 ∧ 1 ≤ l) := ⟨by omega, by omega⟩
  clear hr hn hl hq hq2 hj hj0 hj2
  go_enter Try.func41, Try.ntmps41
  go_wp2_with fail
  rw [← hw0, ← hrb]
  clear hw0 hrb
  refine (npot_s HL.out.1 HL.out.2 w0).mono ?_
  rintro e w' ⟨⟨P, rfl, hP1, hP2⟩, rfl⟩
  obtain ⟨P1, hP⟩ : ∃ P1, P = P1 + 1 := ⟨P - 1, by omega⟩
  have dP : IntKind.u64.wrap ((P : Int) - 1) = (P1 : Int) := by
    have : (P : Int) - 1 = (P1 : Int) := by omega
    rw [this]
    exact wu64 P1 (by have := HL.out; omega)
  have HP : Hid (P = P1 + 1 ∧ l < P ∧ P ≤ 2 * l) := ⟨hP, hP1, hP2⟩
  clear hP hP1 hP2 wl
  go_wp2_with fail
  go_loopw [9] (fun s9 wr => ∃ i : Nat, j0 ≤ i ∧ i ≤ j2 + 1 ∧ s9 = .int .i64 (i : Int) ∧ Hid (BX W w' wr g zs rb)) (fun s9 _ => j2 + 2 - (intOf s9).toNat)
  case atStart => exact ⟨j0, by omega, by have := HB.out; omega, by first | rfl | go_num, H0⟩
  case round =>
    obtain ⟨i, hi1, hi2, rfl, HI⟩ := hrel
    by_cases hle : i ≤ j2
    · have t1 : (i : Int) ≤ (j2 : Int) := by omega
      have wi : IntKind.i64.wrap ((i : Int) + 1) = ((i + 1 : Nat) : Int) := by rw [IntKind.wrap_i64]; have := HB.out; omega
      obtain ⟨x, hx⟩ := HI.out.gen
      have HXX := keepH (xor_s hx)
      clear hx
      go_wp2_with fail
      refine HXX.out.mono ?_
      rintro e w3 ⟨⟨r, rfl, hr64, hrb⟩, C3⟩
      have H3 := keepH (HI.out.rnd hrb C3)
      obtain ⟨o, ho⟩ : ∃ o, o = r &&& P1 := ⟨_, rfl⟩
      have b1 : bits .and .u64 (r : Int) (P1 : Int) = (o : Int) := by rw [bits_and_u64_nat r P1 hr64 (by have := HP.out; have := HL.out; omega), ho]
      have hoP : o ≤ P1 := by rw [ho]; exact Nat.and_le_right
      have boo : o < 131072 := by have := HP.out; have := HL.out; omega
      have bll : l < 65536 := HL.out.1
      have wo : IntKind.i64.wrap (o : Int) = (o : Int) := by rw [IntKind.wrap_i64]; have := HP.out; have := HL.out; omega
      clear hrb C3 ho hr64 HXX HI
      by_cases hol : l ≤ o
      · have t2 : (l : Int) ≤ (o : Int) := by omega
        obtain ⟨o1, ho1⟩ : ∃ o1, o1 = o - l := ⟨_, rfl⟩
        have wo1 : IntKind.i64.wrap ((o : Int) - (l : Int)) = (o1 : Int) := by rw [IntKind.wrap_i64]; omega
        have ho1l : o1 < l := by have := HP.out; omega
        clear ho1
        obtain ⟨y, hy⟩ : ∃ y, y = a + o1 := ⟨_, rfl⟩
        have wy : IntKind.i64.wrap ((a : Int) + (o1 : Int)) = (y : Int) := by rw [IntKind.wrap_i64]; omega
        have yn : y < n := by have := HB.out; omega
        have inn : i < n := by have := HB.out; omega
        clear hy
        obtain ⟨u1, u2, hT⟩ := H3.out.any (i := i) (j := y) (by rw [← HN.out]; omega) (by rw [← HN.out]; omega)
        obtain ⟨k1, k2, k3, k4, k5, k7⟩ : _ := hT.out
        have k4 := k4 (.int .u64 (u2 : Int))
        obtain ⟨u, k5⟩ := k5 (.int .u64 (u2 : Int))
        obtain ⟨w9, hw9⟩ : ∃ w9, w9 = ((w3.setCell ⟨g, i, none⟩ (.int .u64 (u2 : Int))).setCell ⟨g, y, none⟩ (.int .u64 (u1 : Int))).drew := ⟨_, rfl⟩
        have H9 : Hid (BX W w' w9 g zs rb) := by rw [hw9]; exact k7.quiet (Chg.refl _ _).drew
        clear k7 hT H3
        go_upto_region 10 with fail
        go_region
        all_goals (
          rw [← hw9]
          clear hw9 k1 k2 k3 k4 k5
          go_wp2_with fail
          go_roundw
          case rel => exact ⟨i + 1, by omega, by omega, by first | rfl | go_num, H9⟩
          case measure => simp [intOf]; omega)
      · have t2 : ¬ (l : Int) ≤ (o : Int) := by omega
        have ho1l : o < l := by omega
        obtain ⟨y, hy⟩ : ∃ y, y = a + o := ⟨_, rfl⟩
        have wy : IntKind.i64.wrap ((a : Int) + (o : Int)) = (y : Int) := by rw [IntKind.wrap_i64]; omega
        have yn : y < n := by have := HB.out; omega
        have inn : i < n := by have := HB.out; omega
        clear hy
        obtain ⟨u1, u2, hT⟩ := H3.out.any (i := i) (j := y) (by rw [← HN.out]; omega) (by rw [← HN.out]; omega)
        obtain ⟨k1, k2, k3, k4, k5, k7⟩ : _ := hT.out
        have k4 := k4 (.int .u64 (u2 : Int))
        obtain ⟨u, k5⟩ := k5 (.int .u64 (u2 : Int))
        obtain ⟨w9, hw9⟩ : ∃ w9, w9 = ((w3.setCell ⟨g, i, none⟩ (.int .u64 (u2 : Int))).setCell ⟨g, y, none⟩ (.int .u64 (u1 : Int))).drew := ⟨_, rfl⟩
        have H9 : Hid (BX W w' w9 g zs rb) := by rw [hw9]; exact k7.quiet (Chg.refl _ _).drew
        clear k7 hT H3
        go_upto_region 10 with fail
        go_region
        all_goals (
          rw [← hw9]
          clear hw9 k1 k2 k3 k4 k5
          go_wp2_with fail
          go_roundw
          case rel => exact ⟨i + 1, by omega, by omega, by first | rfl | go_num, H9⟩
          case measure => simp [intOf]; omega)
    · have t1 : ¬ (i : Int) ≤ (j2 : Int) := by omega
      have HE := keepH HI.out.ends
      clear HI
      go_wp2_with fail
      go_end0
      exact ⟨rfl, HE.out⟩
end Go.Proofs.Ytnlkdibalhgipaa
/- The whole sort: the same numbers. -/
namespace Go.Proofs.Ytnlkdibalhgipaa
open Go.RowKit Go.Lib
set_option linter.unusedVariables false

theorem Same.callX {W w : World} {g : Nat} {zs : List Nat} (h : Same W g zs w) {f : Nat} {av : Array Value} {Q : Ending → Prop} (k : ∀ zs' : List Nat, zs'.length = zs.length → RowU w g zs' → Calls Try.prog f av w fun e w' => Q e ∧ Same w g zs' w') : Calls Try.prog f av w fun e w' => Q e ∧ Same W g zs w' := by
  obtain ⟨zs', P, R, C⟩ := h
  refine (k zs' P.length_eq R).mono ?_
  rintro e w' ⟨q, zt, P2, R2, C2⟩
  exact ⟨q, zt, P2.trans P, R2, C.p C2⟩
theorem Same.still {w w' : World} {g : Nat} {zs : List Nat} (R : RowU w g zs) (c : Chg (fun _ => False) w w') : Same w g zs w' := (Same.refl R).quiet c
set_option maxRecDepth 100000 in
set_option maxHeartbeats 32000000 in
theorem pdq_g {g c : Nat} (m : Nat) : ∀ {a b : Nat} {z : Int} {zs : List Nat} {W : World}, b - a ≤ m → RowU W g zs → b ≤ zs.length → a ≤ b → zs.length ≤ 60000 →
    Calls Try.prog 35 #[.slice (some ⟨g, 0, none⟩) zs.length c, .int .i64 (a : Int), .int .i64 (b : Int), .int .i64 z] W fun e W' => e = .returned (.tuple #[]) ∧ Same W g zs W' := by
  induction m using Nat.strongRecOn with
  | ind m ih =>
  intro a b z zs W hm hr hb hab hz
  have IH := keepH ih
  have HS := keepH (Same.refl hr)
  clear hr ih
  obtain ⟨n, hn⟩ : ∃ n, n = zs.length := ⟨_, rfl⟩
  rw [← hn] at hz hb ⊢
  have HN := keepH hn
  clear hn
  go_enter Try.func35, Try.ntmps35
  go_wp2_with fail
  go_loopw [1, 2, 3, 8, 9] (fun s1 s2 s3 s8 s9 wr => ∃ (a b : Nat) (z : Int) (t8 t9 : Bool), a ≤ b ∧ b ≤ n ∧ b - a ≤ m ∧ s1 = .int .i64 (a : Int) ∧ s2 = .int .i64 (b : Int) ∧ s3 = .int .i64 z ∧ s8 = .bool t8 ∧ s9 = .bool t9 ∧ Hid (Same W g zs wr)) (fun s1 s2 _ _ _ _ => (intOf s2).toNat - (intOf s1).toNat)
  case atStart => exact ⟨a, b, z, true, true, hab, hb, hm, rfl, rfl, rfl, rfl, rfl, HS⟩
  case round =>
    clear hab hb hm HS z
    clear a b
    obtain ⟨a, b, z, t8, t9, hab, hb, hm, rfl, rfl, rfl, rfl, rfl, HI⟩ := hrel
    obtain ⟨l, hl⟩ : ∃ l, l = b - a := ⟨_, rfl⟩
    have wl : IntKind.i64.wrap ((b : Int) - (a : Int)) = (l : Int) := by rw [IntKind.wrap_i64]; omega
    by_cases h12 : l ≤ 12
    · have t1 : (l : Int) ≤ 12 := by omega
      have HC := keepH (HI.out.callX (f := 39) (av := #[.slice (some ⟨g, 0, none⟩) n c, .int .i64 (a : Int), .int .i64 (b : Int)]) (Q := fun e => e = .returned (.tuple #[])) (fun zs' hl' R => by
        have e : n = zs'.length := by rw [hl']; exact HN.out
        rw [e]
        exact ins_g R (by omega) (by omega) (by omega)))
      clear hl
      go_wp2_with fail
      refine HC.out.mono ?_
      rintro e w1 ⟨rfl, S1⟩
      have H1 := keepH S1
      clear S1
      go_wp2_with fail
      exact bodyPost_ret (results_none rfl _ _ _) rfl ⟨rfl, H1.out⟩
    · have t1 : ¬ (l : Int) ≤ 12 := by omega
      have hal : a + 12 < b := by omega
      have HLL : Hid (l ≤ n) := by show _ ≤ _; omega
      clear hl
      by_cases z0 : z = 0
      · have y0 : (z == 0) = true := by simp [z0]
        have HC := keepH (HI.out.callX (f := 40) (av := #[.slice (some ⟨g, 0, none⟩) n c, .int .i64 (a : Int), .int .i64 (b : Int)]) (Q := fun e => e = .returned (.tuple #[])) (fun zs' hl' R => by
          have e : n = zs'.length := by rw [hl']; exact HN.out
          rw [e]
          exact heap_g R (by omega) (by omega) (by omega)))
        clear z0
        go_wp2_with fail
        refine HC.out.mono ?_
        rintro e w1 ⟨rfl, S1⟩
        have H1 := keepH S1
        clear S1
        go_wp2_with fail
        exact bodyPost_ret (results_none rfl _ _ _) rfl ⟨rfl, H1.out⟩
      · have y0 : (z == 0) = false := by simpa using z0
        clear z0
        go_upto_if 35 with fail
        go_cut [3] from 36 to 41 (fun s3 wz => ∃ z' : Int, s3 = .int .i64 z' ∧ Hid (Same W g zs wz))
        case first =>
          have HC := keepH (HI.out.callX (f := 41) (av := #[.slice (some ⟨g, 0, none⟩) n c, .int .i64 (a : Int), .int .i64 (b : Int)]) (Q := fun e => e = .returned (.tuple #[])) (fun zs' hl' R => by
            have e : n = zs'.length := by rw [hl']; exact HN.out
            rw [e]
            exact break_g R (by omega) (by omega) hal))
          cases t8 with
          | true =>
            go_wp2_with fail
            go_meet
            exact ⟨z, rfl, HI⟩
          | false =>
            go_wp2_with fail
            refine HC.out.mono ?_
            rintro e w1 ⟨rfl, S1⟩
            have H1 := keepH S1
            clear S1 HC HI
            go_wp2_with fail
            go_meet
            exact ⟨_, rfl, H1⟩
        case rest =>
          obtain ⟨z', rfl, H1⟩ := hcut
          clear HI
          have HC := keepH (H1.out.callX (f := 42) (av := #[.slice (some ⟨g, 0, none⟩) n c, .int .i64 (a : Int), .int .i64 (b : Int)]) (Q := fun e => ∃ (p : Nat) (t : Int), e = .returned (.tuple #[.int .i64 (p : Int), .int .i64 t]) ∧ a ≤ p ∧ p < b) (fun zs' hl' R => by
            have e : n = zs'.length := by rw [hl']; exact HN.out
            rw [e]
            refine (pivot_g R (by omega) (by omega) hal).mono ?_
            rintro e w' ⟨h, c⟩
            exact ⟨h, Same.still R c⟩))
          go_wp2_with fail
          refine HC.out.mono ?_
          rintro e w2 ⟨⟨p, h, rfl, hp1, hp2⟩, S2⟩
          have H2 := keepH S2
          clear S2 HC H1
          have HPP : Hid (a ≤ p ∧ p < b) := ⟨hp1, hp2⟩
          clear hp1 hp2
          go_upto_region 11 with fail
          go_cut [50] from 49 to 50 (fun s50 wz => ∃ t : Bool, s50 = .bool t ∧ Hid (Same W g zs wz))
          case first =>
            by_cases hh2 : h = 2
            · have yh : (h == 2) = true := by simp [hh2]
              clear hh2
              go_wp2_with fail
              go_meet
              exact ⟨_, rfl, H2⟩
            · have yh : (h == 2) = false := by simpa using hh2
              clear hh2
              go_wp2_with fail
              go_meet
              exact ⟨_, rfl, H2⟩
          case rest =>
          obtain ⟨t2, rfl, H3⟩ := hcut
          clear H2
          go_upto_if 50 with fail
          go_cut [11, 12] from 51 to 60 (fun s11 s12 wz => ∃ (p : Nat) (h : Int), s11 = .int .i64 (p : Int) ∧ s12 = .int .i64 h ∧ a ≤ p ∧ p < b ∧ Hid (Same W g zs wz))
          case first =>
            have HC := keepH (H3.out.callX (f := 43) (av := #[.slice (some ⟨g, 0, none⟩) n c, .int .i64 (a : Int), .int .i64 (b : Int)]) (Q := fun e => e = .returned (.tuple #[])) (fun zs' hl' R => by
              have e : n = zs'.length := by rw [hl']; exact HN.out
              rw [e]
              exact rev_g R (by omega) (by omega) (by omega)))
            cases t2 with
            | false =>
              go_wp2_with fail
              go_meet
              exact ⟨p, h, rfl, rfl, HPP.out.1, HPP.out.2, H3⟩
            | true =>
              obtain ⟨p1, hp1⟩ : ∃ p1, p1 = b - 1 := ⟨_, rfl⟩
              obtain ⟨p2, hp2⟩ : ∃ p2, p2 = p - a := ⟨_, rfl⟩
              obtain ⟨p3, hp3⟩ : ∃ p3, p3 = p1 - p2 := ⟨_, rfl⟩
              have q1 : IntKind.i64.wrap ((b : Int) - 1) = (p1 : Int) := by rw [IntKind.wrap_i64]; omega
              have q2 : IntKind.i64.wrap ((p : Int) - (a : Int)) = (p2 : Int) := by rw [IntKind.wrap_i64]; have := HPP.out; omega
              have q3 : IntKind.i64.wrap ((p1 : Int) - (p2 : Int)) = (p3 : Int) := by rw [IntKind.wrap_i64]; have := HPP.out; omega
              have HP3 : Hid (a ≤ p3 ∧ p3 < b) := by have := HPP.out; exact ⟨by omega, by omega⟩
              clear hp1 hp2 hp3
              go_wp2_with fail
              refine HC.out.mono ?_
              rintro e w3 ⟨rfl, S3⟩
              have H4 := keepH S3
              clear S3 HC H3
              go_wp2_with fail
              go_meet
              exact ⟨p3, _, rfl, rfl, HP3.out.1, HP3.out.2, H4⟩
          case rest =>
          clear HPP
          obtain ⟨p, h, rfl, rfl, hp1, hp2, H4⟩ := hcut
          have HPP : Hid (a ≤ p ∧ p < b) := ⟨hp1, hp2⟩
          clear hp1 hp2 H3
          go_upto_region 15 with fail
          go_cut [68] from 61 to 68 (fun s68 wz => ∃ t : Bool, s68 = .bool t ∧ Hid (Same W g zs wz))
          case first =>
            by_cases hh1 : h = 1
            · have yh : (h == 1) = true := by simp [hh1]
              clear hh1
              cases t8 <;> cases t9 <;> (
                go_wp2_with fail
                go_meet
                exact ⟨_, rfl, H4⟩)
            · have yh : (h == 1) = false := by simpa using hh1
              clear hh1
              cases t8 <;> cases t9 <;> (
                go_wp2_with fail
                go_meet
                exact ⟨_, rfl, H4⟩)
          case rest =>
          obtain ⟨t5, rfl, H5⟩ := hcut
          clear H4
          go_upto_if 68 with fail
          go_cut [] from 69 to 72 (fun wz => Hid (Same W g zs wz))
          case first =>
            have HC := keepH (H5.out.callX (f := 44) (av := #[.slice (some ⟨g, 0, none⟩) n c, .int .i64 (a : Int), .int .i64 (b : Int)]) (Q := fun e => ∃ t : Bool, e = .returned (.bool t)) (fun zs' hl' R => by
              have e : n = zs'.length := by rw [hl']; exact HN.out
              rw [e]
              exact pins_g R (by omega) (by omega) (by omega)))
            cases t5 with
            | false =>
              go_wp2_with fail
              go_meet
              exact H5
            | true =>
              go_wp2_with fail
              refine HC.out.mono ?_
              rintro e w3 ⟨⟨t, rfl⟩, S3⟩
              have H6 := keepH S3
              clear S3 HC H5
              cases t with
              | true =>
                go_wp2_with fail
                exact bodyPost_ret (results_none rfl _ _ _) rfl ⟨rfl, H6.out⟩
              | false =>
                go_wp2_with fail
                go_meet
                exact H6
          case rest =>
          have H6 := hcut
          clear hcut H5
          go_upto_region 17 with fail
          go_cut [87] from 73 to 87 (fun s87 wz => ∃ t : Bool, s87 = .bool t ∧ Hid (Same W g zs wz))
          case first =>
            by_cases ha0 : 0 < a
            · have t7 : (0 : Int) < (a : Int) := by omega
              obtain ⟨a1, ha1⟩ : ∃ a1, a1 = a - 1 := ⟨_, rfl⟩
              have wa1 : IntKind.i64.wrap ((a : Int) - 1) = (a1 : Int) := by rw [IntKind.wrap_i64]; omega
              have a1n : a1 < n := by omega
              have pn : p < n := by have := HPP.out; omega
              obtain ⟨x, y, hT⟩ := H6.out.any (i := a1) (j := p) (by rw [← HN.out]; omega) (by rw [← HN.out]; omega)
              have cx := (hT wc (Chg.refl _ _)).out.1
              have cy := (hT wc (Chg.refl _ _)).out.2.1
              clear hT ha1
              cases hlt : decide (x < y) with
              | true =>
                have HLS := keepH (less_is hlt)
                clear hlt
                go_quiet (first | (go_at_call 45; refine (HLS.out _).mono ?_; rintro q r ⟨rfl, rfl⟩; exact ⟨rfl, _, rfl⟩))
                obtain ⟨w9, hw9⟩ : ∃ z : World, z = wc.drewN nq := ⟨_, rfl⟩
                have H9 : Hid (Same W g zs w9) := by rw [hw9]; exact H6.out.quiet (drewN_chg wc nq)
                rw [← hw9]
                clear hw9 cx cy HLS
                go_wp2_with fail
                go_meet
                exact ⟨_, rfl, H9⟩
              | false =>
                have HLS := keepH (less_is hlt)
                clear hlt
                go_quiet (first | (go_at_call 45; refine (HLS.out _).mono ?_; rintro q r ⟨rfl, rfl⟩; exact ⟨rfl, _, rfl⟩))
                obtain ⟨w9, hw9⟩ : ∃ z : World, z = wc.drewN nq := ⟨_, rfl⟩
                have H9 : Hid (Same W g zs w9) := by rw [hw9]; exact H6.out.quiet (drewN_chg wc nq)
                rw [← hw9]
                clear hw9 cx cy HLS
                go_wp2_with fail
                go_meet
                exact ⟨_, rfl, H9⟩
            · have t7 : ¬ (0 : Int) < (a : Int) := by omega
              go_quiet (fail)
              obtain ⟨w9, hw9⟩ : ∃ z : World, z = wc.drewN nq := ⟨_, rfl⟩
              have H9 : Hid (Same W g zs w9) := by rw [hw9]; exact H6.out.quiet (drewN_chg wc nq)
              rw [← hw9]
              clear hw9
              go_wp2_with fail
              go_meet
              exact ⟨_, rfl, H9⟩
          case rest =>
          obtain ⟨t7, rfl, H7⟩ := hcut
          clear H6
          cases t7 with
          | true =>
            have HC := keepH (H7.out.callX (f := 46) (av := #[.slice (some ⟨g, 0, none⟩) n c, .int .i64 (a : Int), .int .i64 (b : Int), .int .i64 (p : Int)]) (Q := fun e => ∃ m : Nat, e = .returned (.int .i64 (m : Int)) ∧ a < m ∧ m ≤ b) (fun zs' hl' R => by
              have e : n = zs'.length := by rw [hl']; exact HN.out
              rw [e]
              exact peq_g R (by omega) (by omega) (by omega) HPP.out.2 HPP.out.1))
            go_wp2_with fail
            refine HC.out.mono ?_
            rintro e w8 ⟨⟨md, rfl, hd1, hd2⟩, S8⟩
            have H8 := keepH S8
            clear S8 HC H7
            go_wp2_with fail
            go_roundw
            case rel => exact ⟨md, b, z', t8, t9, by omega, by omega, by omega, by first | rfl | go_num, by first | rfl | go_num, rfl, rfl, rfl, H8⟩
            case measure => simp [intOf]; omega
          | false =>
            have HC := keepH (H7.out.callX (f := 47) (av := #[.slice (some ⟨g, 0, none⟩) n c, .int .i64 (a : Int), .int .i64 (b : Int), .int .i64 (p : Int)]) (Q := fun e => ∃ (m : Nat) (t : Bool), e = .returned (.tuple #[.int .i64 (m : Int), .bool t]) ∧ a ≤ m ∧ m < b) (fun zs' hl' R => by
              have e : n = zs'.length := by rw [hl']; exact HN.out
              rw [e]
              exact part_g R (by omega) (by omega) (by omega) HPP.out.2 HPP.out.1))
            go_wp2_with fail
            refine HC.out.mono ?_
            rintro e w8 ⟨⟨md, t, rfl, hd1, hd2⟩, S8⟩
            have H8 := keepH S8
            clear S8 HC H7
            obtain ⟨ll, hll⟩ : ∃ ll, ll = md - a := ⟨_, rfl⟩
            obtain ⟨rl, hrl⟩ : ∃ rl, rl = b - md := ⟨_, rfl⟩
            obtain ⟨l8, hl8⟩ : ∃ l8, l8 = l / 8 := ⟨_, rfl⟩
            have v1 : IntKind.i64.wrap ((md : Int) - (a : Int)) = (ll : Int) := by rw [IntKind.wrap_i64]; omega
            have v2 : IntKind.i64.wrap ((b : Int) - (md : Int)) = (rl : Int) := by rw [IntKind.wrap_i64]; omega
            have v3 : ((l : Int).tdiv 8) = (l8 : Int) := by rw [Int.tdiv_eq_ediv_of_nonneg (by omega)]; omega
            have v4 : IntKind.i64.wrap (l8 : Int) = (l8 : Int) := by rw [IntKind.wrap_i64]; have := HLL.out; omega
            have v5 : IntKind.i64.wrap ((md : Int) + 1) = ((md + 1 : Nat) : Int) := by rw [IntKind.wrap_i64]; omega
            clear hll hrl hl8
            by_cases hlr : ll < rl
            · have t9' : (ll : Int) < (rl : Int) := by omega
              have HD := keepH (H8.out.callX (f := 35) (av := #[.slice (some ⟨g, 0, none⟩) n c, .int .i64 (a : Int), .int .i64 (md : Int), .int .i64 z']) (Q := fun e => e = .returned (.tuple #[])) (fun zs' hl' R => by
                have e : n = zs'.length := by rw [hl']; exact HN.out
                rw [e]
                exact IH.out (md - a) (by omega) (Nat.le_refl _) R (by omega) (by omega) (by omega)))
              go_wp2_with fail
              refine HD.out.mono ?_
              rintro e w10 ⟨rfl, S10⟩
              have H10 := keepH S10
              clear S10 HD H8
              go_wp2_with fail
              go_roundw
              case rel => exact ⟨md + 1, b, z', _, t, by omega, by omega, by omega, by first | rfl | go_num, by first | rfl | go_num, rfl, rfl, rfl, H10⟩
              case measure => simp [intOf]; omega
            · have t9' : ¬ (ll : Int) < (rl : Int) := by omega
              obtain ⟨md1, hmd1⟩ : ∃ md1, md1 = md + 1 := ⟨_, rfl⟩
              have v6 : IntKind.i64.wrap ((md : Int) + 1) = (md1 : Int) := by rw [v5]; omega
              have hmd : md < md1 := by omega
              have hmd2 : md1 ≤ b := by omega
              clear hmd1 v5
              have HD := keepH (H8.out.callX (f := 35) (av := #[.slice (some ⟨g, 0, none⟩) n c, .int .i64 (md1 : Int), .int .i64 (b : Int), .int .i64 z']) (Q := fun e => e = .returned (.tuple #[])) (fun zs' hl' R => by
                have e : n = zs'.length := by rw [hl']; exact HN.out
                rw [e]
                exact IH.out (b - md1) (by omega) (Nat.le_refl _) R (by omega) (by omega) (by omega)))
              go_wp2_with fail
              refine HD.out.mono ?_
              rintro e w10 ⟨rfl, S10⟩
              have H10 := keepH S10
              clear S10 HD H8
              go_wp2_with fail
              go_roundw
              case rel => exact ⟨a, md, z', _, t, by omega, by omega, by omega, by first | rfl | go_num, by first | rfl | go_num, rfl, rfl, rfl, H10⟩
              case measure => simp [intOf]; omega
end Go.Proofs.Ytnlkdibalhgipaa
/- slices.Sort of numbers: the same numbers. -/
namespace Go.Proofs.Ytnlkdibalhgipaa
open Go.RowKit Go.Lib
set_option linter.unusedVariables false

set_option maxRecDepth 100000 in
set_option maxHeartbeats 4000000 in
theorem sort_g {W : World} {g c : Nat} {zs : List Nat} (hr : RowU W g zs) (hz : zs.length ≤ 60000) :
    Calls Try.prog 28 #[.slice (some ⟨g, 0, none⟩) zs.length c] W fun e W' => e = .returned (.tuple #[]) ∧ Same W g zs W' := by
  have HP : Hid (∀ z : Int, Calls Try.prog 35 #[.slice (some ⟨g, 0, none⟩) zs.length c, .int .i64 0, .int .i64 (zs.length : Int), .int .i64 z] W fun e W' => e = .returned (.tuple #[]) ∧ Same W g zs W') := fun z => pdq_g (a := 0) (b := zs.length) zs.length (by omega) hr (Nat.le_refl _) (by omega) hz
  clear hr
  obtain ⟨n, hn⟩ : ∃ n, n = zs.length := ⟨_, rfl⟩
  rw [← hn] at hz HP ⊢
  clear hn
  have w1 := wu64 n (by omega)
  go_enter Try.func28, Try.ntmps28
  go_wp2_with fail
  refine (len_s (by omega) _).mono ?_
  rintro e W' ⟨⟨k, rfl, hk⟩, rfl⟩
  clear hk
  go_wp2_with fail
  refine (HP.out k).mono ?_
  rintro e W' ⟨rfl, S⟩
  have HS := keepH S
  clear S HP
  go_wp2_with fail
  go_end0
  exact ⟨rfl, HS.out⟩
end Go.Proofs.Ytnlkdibalhgipaa
