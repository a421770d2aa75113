/- Numbers that are handed in with marked places behind them, and looked at again. -/
import Derived.Laws.OwnMore
import Derived.Test.YtimlaamhjbhkmaaGreatMsP
namespace Go.Proofs.YtimlaamhjbhkmaaGreat
open Go.RowKit
set_option linter.unusedVariables false

theorem infoU : (Tryz.prog.info? 31).map (fun i => (i.zero, i.size, i.bytes)) = some (some (.int .u64 0), 1, 8) := by kernel_rfl
/-- What HandUint64s leaves: a row of the call's own with the numbers in front and the marks behind. -/
def Handed (W : World) (g n : Nat) (zs : Nat → Nat) : Prop :=
  (∀ j, j < n → W.cell? ⟨g, j, none⟩ = some (.int .u64 (zs j : Int))) ∧ ∀ j, j < 9 → W.cell? ⟨g, n + j, none⟩ = some (.int .u64 (2305843009213693952 + (j : Int)))

def Row (W : World) (base g N : Nat) (xs : List Value) : Prop := W.ownsRow base 31 1 (.slice (some ⟨g, 0, none⟩) N N) N xs

theorem Row.at {W : World} {base g N : Nat} {xs : List Value} (h : Row W base g N xs) (j : Nat) (hj : j < N) : ∃ v, W.cell? ⟨g, j, none⟩ = some v ∧ W.frozen? ⟨g, j, none⟩ = false := by
  have e := World.ownsRow.cellAt h j (by omega)
  have l : xs.length = N := by have := h.1; omega
  have f := World.ownsRow.frozenAt h j
  exact ⟨xs[j]'(by omega), by rw [e]; simp, f⟩
theorem Row.put {W : World} {base g N : Nat} {xs : List Value} (h : Row W base g N xs) (j : Nat) (u : Value) : Row (W.setCell ⟨g, j, none⟩ u) base g N (xs.set j u) := (World.ownsRow.stored h j u).1
theorem Row.base {W : World} {base g N : Nat} {xs : List Value} (h : Row W base g N xs) : base ≤ g ∧ g < W.heap.size := by
  rcases h.2 with ⟨h', _⟩ | ⟨g', cap', cur, h', hb, hg, _⟩
  · simp at h'
  · simp only [Value.slice.injEq, Option.some.injEq, Addr.mk.injEq, and_true, true_and] at h'
    obtain ⟨rfl, _⟩ := h'
    exact ⟨hb, (Array.getElem?_eq_some_iff.1 hg).1⟩

theorem set_keep {xs : List Value} {f : Nat → Value} {k N : Nat} (hN : xs.length = N) (hk : k < N) (h : ∀ j, j < k → xs[j]? = some (f j)) : ∀ j, j < k + 1 → (xs.set k (f k))[j]? = some (f j) := by
  intro j hj
  rw [List.getElem?_set]
  by_cases e : k = j
  · subst e; simp; omega
  · rw [if_neg e]; exact h j (by omega)
theorem set_other {xs : List Value} {f : Nat → Value} {k m : Nat} (u : Value) (hm : m ≤ k) (h : ∀ j, j < m → xs[j]? = some (f j)) : ∀ j, j < m → (xs.set k u)[j]? = some (f j) := by
  intro j hj
  rw [List.getElem?_set, if_neg (by omega)]
  exact h j hj
theorem Row.cells {W : World} {base g N : Nat} {xs : List Value} (h : Row W base g N xs) (j : Nat) (hj : j < N) {v : Value} (e : xs[j]? = some v) : W.cell? ⟨g, j, none⟩ = some v := (World.ownsRow.cellAt h j (by omega)).trans e

set_option maxRecDepth 100000 in
set_option maxHeartbeats 2000000 in
theorem handu_some (b off n c : Nat) (zs : Nat → Nat) (w : World) (hn : n ≤ 17592186043904) (hb : b < w.heap.size) (hu : ∀ j, j < n → w.cell? ⟨b, off + j, none⟩ = some (.int .u64 (zs j : Int))) :
    Calls Tryz.prog 37 #[.slice (some ⟨b, off, none⟩) n c] w fun e W' => ∃ g, e = .returned (.slice (some ⟨g, 0, none⟩) n (n + 9)) ∧ w.heap.size ≤ g ∧ g < W'.heap.size ∧ Handed W' g n zs ∧ Below w.heap.size w W' := by
  obtain ⟨i0, hi, hz0, hz1, hz2⟩ := info_parts infoU
  have HU := keepH hu
  clear hu
  go_enter Tryz.func37, Tryz.ntmps37
  go_wp2_with (at_make; refine wpList_make_full _ rfl _ _ 34 rfl w.heap.size 31 i0 (.int .u64 0) 1 Tryz.underlying34 hi hz0 hz1 .i64 .i64 _ _ (n + 9) rfl rfl (by omega) (by omega) (by rw [hz2]; omega) (by unfold maxLen; omega) (Nat.le_refl _) ?_; intro w1 hown1 hgrow1)
  have R1 : Row w1 w.heap.size w.heap.size (n + 9) _ := hown1
  have B1 : Below w.heap.size w w1 := (Below.refl _ w).grown hgrow1 (Nat.le_refl _) (fun j ej => by cases ej)
  clear hown1 hgrow1
  go_loopw [4] (fun i wr => ∃ (k : Nat) (xs : List Value), k ≤ n ∧ i = .int .i64 (k : Int) ∧ Hid (Row wr w.heap.size w.heap.size (n + 9) xs) ∧ Hid (∀ j, j < k → xs[j]? = some (.int .u64 (zs j : Int))) ∧ Below w.heap.size w wr) (fun i _ => n - (intOf i).toNat)
  case atStart => exact ⟨0, _, by omega, rfl, R1, fun j hj => by omega, B1⟩
  case round =>
    obtain ⟨k, xs, hk, rfl, HR, HX, hB⟩ := hrel
    by_cases hlt : k < n
    · obtain ⟨v0, c0, f0⟩ := HR.out.at k (by omega)
      have x1 : wr.cell? ⟨b, off + k, none⟩ = some (.int .u64 (zs k : Int)) := (hB.cell (p := ⟨b, off + k, none⟩) hb).trans (HU.out k hlt)
      have i1 : (k : Int) < (n : Int) := by omega
      have hl : xs.length = n + 9 := by have := HR.out.1; omega
      go_wp2
      go_roundw
      case rel => exact ⟨k + 1, _, by omega, by go_num, HR.out.put k (.int .u64 (zs k : Int)), set_keep (f := fun j => .int .u64 (zs j : Int)) hl (by omega) HX.out, hB.setCell (p := ⟨w.heap.size, k, none⟩) (Nat.le_refl _) _⟩
      case measure => simp [intOf]; omega
    · obtain rfl : k = n := by omega
      have HX0 := HX
      go_wp2
      go_loopw [5] (fun i wr => ∃ (m : Nat) (xs : List Value), m ≤ 9 ∧ i = .int .i64 ((k : Int) + (m : Int)) ∧ Hid (Row wr w.heap.size w.heap.size (k + 9) xs) ∧ Hid (∀ j, j < k → xs[j]? = some (.int .u64 (zs j : Int))) ∧ Hid (∀ j, j < m → xs[k + j]? = some (.int .u64 (2305843009213693952 + (j : Int)))) ∧ Below w.heap.size w wr) (fun i _ => k + 9 - (intOf i).toNat)
      case atStart => exact ⟨0, _, by omega, by simp, HR, HX0, fun j hj => by omega, hB⟩
      case round =>
        obtain ⟨m, ys, hm, rfl, HS, HY, HZ, hC⟩ := hrel
        by_cases hlt2 : m < 9
        · obtain ⟨v0, c0, f0⟩ := HS.out.at (k + m) (by omega)
          have i1 : (k : Int) + (m : Int) < (k : Int) + 9 := by omega
          have hl : ys.length = k + 9 := by have := HS.out.1; omega
          go_wp2
          go_roundw
          case rel =>
            refine ⟨m + 1, _, by omega, by go_num, HS.out.put (k + m) _, set_other _ (by omega) HY.out, fun j hj => ?_, hC.setCell (p := ⟨w.heap.size, k + m, none⟩) (Nat.le_refl _) _⟩
            rw [List.getElem?_set]
            by_cases e : m = j
            · subst e
              rw [if_pos rfl, if_pos (by omega)]
              exact congrArg (fun z : Int => some (Value.int .u64 z)) (by omega)
            · rw [if_neg (by omega)]
              exact HZ.out j (by omega)
          case measure => simp [intOf]; omega
        · obtain rfl : m = 9 := by omega
          go_wp2
          go_ret
          exact ⟨w.heap.size, rfl, Nat.le_refl _, HS.out.base.2, ⟨fun j hj => HS.out.cells j (by omega) (HY.out j hj), fun j hj => HS.out.cells (k + j) (by omega) (HZ.out j hj)⟩, hC⟩

set_option maxRecDepth 100000 in
set_option maxHeartbeats 2000000 in
theorem handu_zero (p : Option Addr) (c : Nat) (zs : Nat → Nat) (w : World) :
    Calls Tryz.prog 37 #[.slice p 0 c] w fun e W' => ∃ g, e = .returned (.slice (some ⟨g, 0, none⟩) 0 9) ∧ w.heap.size ≤ g ∧ g < W'.heap.size ∧ Handed W' g 0 zs ∧ Below w.heap.size w W' := by
  obtain ⟨i0, hi, hz0, hz1, hz2⟩ := info_parts infoU
  go_enter Tryz.func37, Tryz.ntmps37
  go_wp2_with (at_make; refine wpList_make_full _ rfl _ _ 34 rfl w.heap.size 31 i0 (.int .u64 0) 1 Tryz.underlying34 hi hz0 hz1 .i64 .i64 _ _ 9 rfl rfl (by omega) (by omega) (by rw [hz2]; omega) (by unfold maxLen; omega) (Nat.le_refl _) ?_; intro w1 hown1 hgrow1)
  have R1 : Row w1 w.heap.size w.heap.size 9 _ := hown1
  have B1 : Below w.heap.size w w1 := (Below.refl _ w).grown hgrow1 (Nat.le_refl _) (fun j ej => by cases ej)
  clear hown1 hgrow1
  go_loopw [4] (fun i wr => i = .int .i64 0 ∧ wr = w1) (fun _ _ => 0)
  case atStart => exact ⟨rfl, rfl⟩
  case round =>
    obtain ⟨rfl, rfl⟩ := hrel
    have HR := keepH R1
    have hB := B1
    have HX := keepH (show ∀ j, j < 0 → (madeCells (Value.int .u64 0).cells ((0 + 9) * 1)).toList[j]? = some (.int .u64 (zs j : Int)) from fun j hj => by omega)
    clear R1 B1
    have HX0 := HX
    go_wp2
    go_loopw [5] (fun i wr => ∃ (m : Nat) (xs : List Value), m ≤ 9 ∧ i = .int .i64 ((m : Int)) ∧ Hid (Row wr w.heap.size w.heap.size 9 xs) ∧ Hid (∀ j, j < 0 → xs[j]? = some (.int .u64 (zs j : Int))) ∧ Hid (∀ j, j < m → xs[j]? = some (.int .u64 (2305843009213693952 + (j : Int)))) ∧ Below w.heap.size w wr) (fun i _ => 9 - (intOf i).toNat)
    case atStart => exact ⟨0, _, by omega, by simp, HR, HX0, fun j hj => by omega, hB⟩
    case round =>
      obtain ⟨m, ys, hm, rfl, HS, HY, HZ, hC⟩ := hrel
      by_cases hlt2 : m < 9
      · obtain ⟨v0, c0, f0⟩ := HS.out.at m (by omega)
        have i1 : (m : Int) < 9 := by omega
        have hl : ys.length = 9 := by have := HS.out.1; omega
        go_wp2
        go_roundw
        case rel =>
          refine ⟨m + 1, _, by omega, by go_num, HS.out.put m _, set_other _ (by omega) HY.out, fun j hj => ?_, hC.setCell (p := ⟨w.heap.size, m, none⟩) (Nat.le_refl _) _⟩
          rw [List.getElem?_set]
          by_cases e : m = j
          · subst e
            rw [if_pos rfl, if_pos (by omega)]
            first | done | exact congrArg (fun z : Int => some (Value.int .u64 z)) (by omega)
          · rw [if_neg (by omega)]
            exact HZ.out j (by omega)
        case measure => simp [intOf]; omega
      · obtain rfl : m = 9 := by omega
        go_wp2
        go_ret
        exact ⟨w.heap.size, rfl, Nat.le_refl _, HS.out.base.2, ⟨fun j hj => HS.out.cells j (by omega) (HY.out j hj), fun j hj => HS.out.cells (0 + j) (by omega) (by rw [Nat.zero_add]; exact HZ.out j hj)⟩, hC⟩

end Go.Proofs.YtimlaamhjbhkmaaGreat
