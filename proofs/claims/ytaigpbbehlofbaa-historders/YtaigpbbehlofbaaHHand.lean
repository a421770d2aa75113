/- Lists that are handed in with marked places behind them, and looked at again: contracts. -/
import Derived.Laws.OwnMore
import Derived.Test.YtaigpbbehlofbaaHRWid
import Derived.Test.YtaigpbbehlofbaaHSameI
namespace Go.Proofs.Ytaigpbbehlofbaa
open Go.RowKit Go.Shelf
set_option linter.unusedVariables false

/-- What HandInts leaves: a row of the call's own with the numbers in front and the marks behind. -/
def Handed (W : World) (g n : Nat) (zs : Nat → Int) : Prop :=
  (∀ j, j < n → W.cell? ⟨g, j, none⟩ = some (.int .i64 (zs j))) ∧ ∀ j, j < 9 → W.cell? ⟨g, n + j, none⟩ = some (.int .i64 (-700 - (j : Int)))

def Row (W : World) (base g N : Nat) (xs : List Value) : Prop := W.ownsRow base 3 1 (.slice (some ⟨g, 0, none⟩) N N) N xs

theorem Row.at {W : World} {base g N : Nat} {xs : List Value} (h : Row W base g N xs) (j : Nat) (hj : j < N) : ∃ v, W.cell? ⟨g, j, none⟩ = some v ∧ W.frozen? ⟨g, j, none⟩ = false := by
  have e := World.ownsRow.cellAt h j (by omega)
  have l : xs.length = N := by have := h.1; omega
  have f := World.ownsRow.frozenAt h j
  exact ⟨xs[j]'(by omega), by rw [e]; simp, f⟩
theorem Row.put {W : World} {base g N : Nat} {xs : List Value} (h : Row W base g N xs) (j : Nat) (u : Value) : Row (W.setCell ⟨g, j, none⟩ u) base g N (xs.set j u) := (World.ownsRow.stored h j u).1
theorem Row.base {W : World} {base g N : Nat} {xs : List Value} (h : Row W base g N xs) : base ≤ g ∧ g < W.heap.size := by
  rcases h.2 with ⟨h', _⟩ | ⟨g', cap', cur, h', hb, hg, _⟩
  · simp at h'
  · simp only [Value.slice.injEq, Option.some.injEq, Addr.mk.injEq, and_true, true_and] at h'
    obtain ⟨rfl, _⟩ := h'
    exact ⟨hb, (Array.getElem?_eq_some_iff.1 hg).1⟩

theorem set_keep {xs : List Value} {f : Nat → Value} {k N : Nat} (hN : xs.length = N) (hk : k < N) (h : ∀ j, j < k → xs[j]? = some (f j)) : ∀ j, j < k + 1 → (xs.set k (f k))[j]? = some (f j) := by
  intro j hj
  rw [List.getElem?_set]
  by_cases e : k = j
  · subst e; simp; omega
  · rw [if_neg e]; exact h j (by omega)
theorem set_other {xs : List Value} {f : Nat → Value} {k m : Nat} (u : Value) (hm : m ≤ k) (h : ∀ j, j < m → xs[j]? = some (f j)) : ∀ j, j < m → (xs.set k u)[j]? = some (f j) := by
  intro j hj
  rw [List.getElem?_set, if_neg (by omega)]
  exact h j hj
theorem Row.cells {W : World} {base g N : Nat} {xs : List Value} (h : Row W base g N xs) (j : Nat) (hj : j < N) {v : Value} (e : xs[j]? = some v) : W.cell? ⟨g, j, none⟩ = some v := (World.ownsRow.cellAt h j (by omega)).trans e

set_option maxRecDepth 100000 in
set_option maxHeartbeats 2000000 in
theorem hand_some (b off n c : Nat) (zs : Nat → Int) (w : World) (hn : n ≤ 17592186043904) (hb : b < w.heap.size) (hu : ∀ j, j < n → w.cell? ⟨b, off + j, none⟩ = some (.int .i64 (zs j))) :
    Calls Try.prog 5 #[.slice (some ⟨b, off, none⟩) n c] w fun e W' => ∃ g, e = .returned (.slice (some ⟨g, 0, none⟩) n (n + 9)) ∧ w.heap.size ≤ g ∧ g < W'.heap.size ∧ Handed W' g n zs ∧ Below w.heap.size w W' := by
  obtain ⟨i0, hi, hz0, hz1, hz2⟩ := info_parts infoInt
  have HU := keepH hu
  clear hu
  go_enter Try.func5, Try.ntmps5
  go_wp2_with (at_make; refine wpList_make_full _ rfl _ _ 23 rfl w.heap.size 3 i0 (.int .i64 0) 1 Try.underlying23 hi hz0 hz1 .i64 .i64 _ _ (n + 9) rfl rfl (by omega) (by omega) (by rw [hz2]; omega) (by unfold maxLen; omega) (Nat.le_refl _) ?_; intro w1 hown1 hgrow1)
  have R1 : Row w1 w.heap.size w.heap.size (n + 9) _ := hown1
  have B1 : Below w.heap.size w w1 := (Below.refl _ w).grown hgrow1 (Nat.le_refl _) (fun j ej => by cases ej)
  clear hown1 hgrow1
  go_loopw [4] (fun i wr => ∃ (k : Nat) (xs : List Value), k ≤ n ∧ i = .int .i64 (k : Int) ∧ Hid (Row wr w.heap.size w.heap.size (n + 9) xs) ∧ Hid (∀ j, j < k → xs[j]? = some (.int .i64 (zs j))) ∧ Below w.heap.size w wr) (fun i _ => n - (intOf i).toNat)
  case atStart => exact ⟨0, _, by omega, rfl, R1, fun j hj => by omega, B1⟩
  case round =>
    obtain ⟨k, xs, hk, rfl, HR, HX, hB⟩ := hrel
    by_cases hlt : k < n
    · obtain ⟨v0, c0, f0⟩ := HR.out.at k (by omega)
      have x1 : wr.cell? ⟨b, off + k, none⟩ = some (.int .i64 (zs k)) := (hB.cell (p := ⟨b, off + k, none⟩) hb).trans (HU.out k hlt)
      have i1 : (k : Int) < (n : Int) := by omega
      have hl : xs.length = n + 9 := by have := HR.out.1; omega
      go_wp2
      go_roundw
      case rel => exact ⟨k + 1, _, by omega, by go_num, HR.out.put k (.int .i64 (zs k)), set_keep (f := fun j => .int .i64 (zs j)) hl (by omega) HX.out, hB.setCell (p := ⟨w.heap.size, k, none⟩) (Nat.le_refl _) _⟩
      case measure => simp [intOf]; omega
    · obtain rfl : k = n := by omega
      have HX0 := HX
      go_wp2
      go_loopw [5] (fun i wr => ∃ (m : Nat) (xs : List Value), m ≤ 9 ∧ i = .int .i64 ((k : Int) + (m : Int)) ∧ Hid (Row wr w.heap.size w.heap.size (k + 9) xs) ∧ Hid (∀ j, j < k → xs[j]? = some (.int .i64 (zs j))) ∧ Hid (∀ j, j < m → xs[k + j]? = some (.int .i64 (-700 - (j : Int)))) ∧ Below w.heap.size w wr) (fun i _ => k + 9 - (intOf i).toNat)
      case atStart => exact ⟨0, _, by omega, by simp, HR, HX0, fun j hj => by omega, hB⟩
      case round =>
        obtain ⟨m, ys, hm, rfl, HS, HY, HZ, hC⟩ := hrel
        by_cases hlt2 : m < 9
        · obtain ⟨v0, c0, f0⟩ := HS.out.at (k + m) (by omega)
          have i1 : (k : Int) + (m : Int) < (k : Int) + 9 := by omega
          have hl : ys.length = k + 9 := by have := HS.out.1; omega
          go_wp2
          go_roundw
          case rel =>
            refine ⟨m + 1, _, by omega, by go_num, HS.out.put (k + m) _, set_other _ (by omega) HY.out, fun j hj => ?_, hC.setCell (p := ⟨w.heap.size, k + m, none⟩) (Nat.le_refl _) _⟩
            rw [List.getElem?_set]
            by_cases e : m = j
            · subst e
              rw [if_pos rfl, if_pos (by omega)]
              exact congrArg (fun z : Int => some (Value.int .i64 z)) (by omega)
            · rw [if_neg (by omega)]
              exact HZ.out j (by omega)
          case measure => simp [intOf]; omega
        · obtain rfl : m = 9 := by omega
          go_wp2
          go_ret
          exact ⟨w.heap.size, rfl, Nat.le_refl _, HS.out.base.2, ⟨fun j hj => HS.out.cells j (by omega) (HY.out j hj), fun j hj => HS.out.cells (k + j) (by omega) (HZ.out j hj)⟩, hC⟩

set_option maxRecDepth 100000 in
set_option maxHeartbeats 2000000 in
theorem hand_zero (p : Option Addr) (c : Nat) (zs : Nat → Int) (w : World) :
    Calls Try.prog 5 #[.slice p 0 c] w fun e W' => ∃ g, e = .returned (.slice (some ⟨g, 0, none⟩) 0 9) ∧ w.heap.size ≤ g ∧ g < W'.heap.size ∧ Handed W' g 0 zs ∧ Below w.heap.size w W' := by
  obtain ⟨i0, hi, hz0, hz1, hz2⟩ := info_parts infoInt
  go_enter Try.func5, Try.ntmps5
  go_wp2_with (at_make; refine wpList_make_full _ rfl _ _ 23 rfl w.heap.size 3 i0 (.int .i64 0) 1 Try.underlying23 hi hz0 hz1 .i64 .i64 _ _ 9 rfl rfl (by omega) (by omega) (by rw [hz2]; omega) (by unfold maxLen; omega) (Nat.le_refl _) ?_; intro w1 hown1 hgrow1)
  have R1 : Row w1 w.heap.size w.heap.size 9 _ := hown1
  have B1 : Below w.heap.size w w1 := (Below.refl _ w).grown hgrow1 (Nat.le_refl _) (fun j ej => by cases ej)
  clear hown1 hgrow1
  go_loopw [4] (fun i wr => i = .int .i64 0 ∧ wr = w1) (fun _ _ => 0)
  case atStart => exact ⟨rfl, rfl⟩
  case round =>
    obtain ⟨rfl, rfl⟩ := hrel
    have HR := keepH R1
    have hB := B1
    have HX := keepH (show ∀ j, j < 0 → (madeCells (Value.int .i64 0).cells ((0 + 9) * 1)).toList[j]? = some (.int .i64 (zs j)) from fun j hj => by omega)
    clear R1 B1
    have HX0 := HX
    go_wp2
    go_loopw [5] (fun i wr => ∃ (m : Nat) (xs : List Value), m ≤ 9 ∧ i = .int .i64 ((m : Int)) ∧ Hid (Row wr w.heap.size w.heap.size 9 xs) ∧ Hid (∀ j, j < 0 → xs[j]? = some (.int .i64 (zs j))) ∧ Hid (∀ j, j < m → xs[j]? = some (.int .i64 (-700 - (j : Int)))) ∧ Below w.heap.size w wr) (fun i _ => 9 - (intOf i).toNat)
    case atStart => exact ⟨0, _, by omega, by simp, HR, HX0, fun j hj => by omega, hB⟩
    case round =>
      obtain ⟨m, ys, hm, rfl, HS, HY, HZ, hC⟩ := hrel
      by_cases hlt2 : m < 9
      · obtain ⟨v0, c0, f0⟩ := HS.out.at m (by omega)
        have i1 : (m : Int) < 9 := by omega
        have hl : ys.length = 9 := by have := HS.out.1; omega
        go_wp2
        go_roundw
        case rel =>
          refine ⟨m + 1, _, by omega, by go_num, HS.out.put m _, set_other _ (by omega) HY.out, fun j hj => ?_, hC.setCell (p := ⟨w.heap.size, m, none⟩) (Nat.le_refl _) _⟩
          rw [List.getElem?_set]
          by_cases e : m = j
          · subst e
            rw [if_pos rfl, if_pos (by omega)]
            first | done | exact congrArg (fun z : Int => some (Value.int .i64 z)) (by omega)
          · rw [if_neg (by omega)]
            exact HZ.out j (by omega)
        case measure => simp [intOf]; omega
      · obtain rfl : m = 9 := by omega
        go_wp2
        go_ret
        exact ⟨w.heap.size, rfl, Nat.le_refl _, HS.out.base.2, ⟨fun j hj => HS.out.cells j (by omega) (HY.out j hj), fun j hj => HS.out.cells (0 + j) (by omega) (by rw [Nat.zero_add]; exact HZ.out j hj)⟩, hC⟩

theorem IReads.handed {W : World} {g : Nat} {zs : List Int} (h : Handed W g zs.length (fun j => zs.getD j 0)) (hg : g < W.heap.size) : IReads W (some ⟨g, 0, none⟩) zs := by
  refine .inr ⟨g, 0, rfl, hg, fun i x hx => ?_⟩
  have hl := (List.getElem?_eq_some_iff.1 hx).1
  have e := h.1 i hl
  simp only [List.getD_eq_getElem?_getD, hx] at e
  simpa using e
theorem Handed.chg {W X : World} {g n : Nat} {zs : Nat → Int} {F : Nat → Prop} (h : Handed W g n zs) (c : Chg F W X) (hF : ¬ F g) : Handed X g n zs := ⟨fun j hj => cell_chg c (h.1 j hj) hF, fun j hj => cell_chg c (h.2 j hj) hF⟩
theorem hand_ints (p : Option Addr) (c : Nat) (zs : List Int) (W : World) (h : IReads W p zs) (hn : zs.length ≤ 17592186043904) :
    Calls Try.prog 5 #[.slice p zs.length c] W fun e W' => ∃ g, e = .returned (.slice (some ⟨g, 0, none⟩) zs.length (zs.length + 9)) ∧ W.heap.size ≤ g ∧ g < W'.heap.size ∧ Handed W' g zs.length (fun j => zs.getD j 0) ∧ Chg (fun _ => False) W W' := by
  rcases h with rfl | ⟨bk, off, rfl, hb, h⟩
  · refine (hand_zero p c (fun j => ([] : List Int).getD j 0) W).mono ?_
    rintro e W' ⟨g, rfl, h1, h2, h3, h4⟩
    exact ⟨g, rfl, h1, h2, h3, (chg_below h4).mono (fun i hi x => by omega)⟩
  · refine (hand_some bk off zs.length c (fun j => zs.getD j 0) W hn hb (fun j hj => h j _ (by rw [List.getD_eq_getElem?_getD, List.getElem?_eq_getElem hj]; rfl))).mono ?_
    rintro e W' ⟨g, rfl, h1, h2, h3, h4⟩
    exact ⟨g, rfl, h1, h2, h3, (chg_below h4).mono (fun i hi x => by omega)⟩

set_option maxRecDepth 100000 in
set_option maxHeartbeats 1000000 in
theorem kept_ints (g : Nat) (p : Option Addr) (c : Nat) (zs : List Int) (w : World) (hh : Handed w g zs.length (fun j => zs.getD j 0)) (hg : g < w.heap.size) (h : IReads w p zs) (hn : zs.length ≤ 17592186043904) :
    Calls Try.prog 14 #[.slice (some ⟨g, 0, none⟩) zs.length (zs.length + 9), .slice p zs.length c] w fun e W' => e = .returned (.bool true) ∧ Chg (fun _ => False) w W' := by
  have HS := keepH (r_sameI (some ⟨g, 0, none⟩) p (zs.length + 9) c zs w (IReads.handed hh hg) h (by omega))
  obtain ⟨n, hnn⟩ : ∃ n, n = zs.length := ⟨_, rfl⟩
  rw [← hnn] at hh hn HS ⊢
  have HH := keepH hh
  clear hh h hnn hg
  go_enter Try.func14, Try.ntmps14
  go_wp2_with fail
  refine HS.out.mono ?_
  rintro e w1 ⟨rfl, C1⟩
  have H1 : Hid (∀ j, j < 9 → w1.cell? ⟨g, n + j, none⟩ = some (.int .i64 (-700 - (j : Int)))) := fun j hj => cell_chg C1 (HH.out.2 j hj) (fun x => x)
  have HC := keepH C1
  clear C1
  go_wp2_with fail
  go_loopw [6] (fun i wr => ∃ m : Nat, m ≤ 9 ∧ i = .int .i64 ((n : Int) + (m : Int)) ∧ wr = w1) (fun i _ => n + 9 - (intOf i).toNat)
  case atStart => exact ⟨0, by omega, by simp, rfl⟩
  case round =>
    obtain ⟨m, hm, rfl, hw⟩ := hrel
    subst hw
    by_cases hlt : m < 9
    · have x1 := H1.out m hlt
      have e1 : ((-700 - (m : Int)) != (-700 - ((n : Int) + (m : Int)) + (n : Int))) = false := by
        rw [show (-700 - ((n : Int) + (m : Int)) + (n : Int)) = -700 - (m : Int) by omega]; simp
      have i1 : (n : Int) + (m : Int) < (n : Int) + 9 := by omega
      go_wp2_with fail
      go_roundw
      case rel => exact ⟨m + 1, by omega, by go_num, (by first | rfl | trivial)⟩
      case measure => simp [intOf]; omega
    · obtain rfl : m = 9 := by omega
      go_wp2_with fail
      go_ret
      exact ⟨by simp, HC.out⟩
end Go.Proofs.Ytaigpbbehlofbaa
