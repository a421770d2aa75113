/- Lists that are handed in with marked places behind them, and looked at again: contracts. -/
import Derived.Laws.OwnMore
import Derived.Test.YtnhiodmigmmfgaaGreatR16PE
import Derived.Test.YtnhiodmigmmfgaaGreatR18PI
import Derived.Test.YtnhiodmigmmfgaaGreatR12Yu
import Derived.Test.YtnhiodmigmmfgaaGreatR11Y5
namespace Go.Proofs.YtnhiodmigmmfgaaGreat
open Go.RowKit Go.Shelf
set_option linter.unusedVariables false

theorem r_sameI (p q : Option Addr) (c d : Nat) (la : List Int) (W : World) (ha : IReads W p la) (hb : IReads W q la) (hla : la.length ≤ 17592186044416) :
    Calls Tryz.prog 42 #[.slice p la.length c, .slice q la.length d] W fun e W' => e = .returned (.bool true) ∧ Chg (fun _ => False) W W' := by
  refine (s_sameI p q c d la W ha hb hla).mono ?_
  rintro e W' ⟨rfl, k, rfl⟩
  exact ⟨rfl, drewN_chgY _ _⟩

/-- What HandInts leaves: a row of the call's own with the numbers in front and the marks behind. -/
def Handed (W : World) (g n : Nat) (zs : Nat → Int) : Prop :=
  (∀ j, j < n → W.cell? ⟨g, j, none⟩ = some (.int .i64 (zs j))) ∧ ∀ j, j < 9 → W.cell? ⟨g, n + j, none⟩ = some (.int .i64 (-700 - (j : Int)))

def Row (W : World) (base g N : Nat) (xs : List Value) : Prop := W.ownsRow base 3 1 (.slice (some ⟨g, 0, none⟩) N N) N xs

theorem Row.at {W : World} {base g N : Nat} {xs : List Value} (h : Row W base g N xs) (j : Nat) (hj : j < N) : ∃ v, W.cell? ⟨g, j, none⟩ = some v ∧ W.frozen? ⟨g, j, none⟩ = false := by
  have e := World.ownsRow.cellAt h j (by omega)
  have l : xs.length = N := by have := h.1; omega
  have f := World.ownsRow.frozenAt h j
  exact ⟨xs[j]'(by omega), by rw [e]; simp, f⟩
theorem Row.put {W : World} {base g N : Nat} {xs : List Value} (h : Row W base g N xs) (j : Nat) (u : Value) : Row (W.setCell ⟨g, j, none⟩ u) base g N (xs.set j u) := (World.ownsRow.stored h j u).1
theorem Row.base {W : World} {base g N : Nat} {xs : List Value} (h : Row W base g N xs) : base ≤ g ∧ g < W.heap.size := by
  rcases h.2 with ⟨h', _⟩ | ⟨g', cap', cur, h', hb, hg, _⟩
  · simp at h'
  · simp only [Value.slice.injEq, Option.some.injEq, Addr.mk.injEq, and_true, true_and] at h'
    obtain ⟨rfl, _⟩ := h'
    exact ⟨hb, (Array.getElem?_eq_some_iff.1 hg).1⟩

theorem set_keep {xs : List Value} {f : Nat → Value} {k N : Nat} (hN : xs.length = N) (hk : k < N) (h : ∀ j, j < k → xs[j]? = some (f j)) : ∀ j, j < k + 1 → (xs.set k (f k))[j]? = some (f j) := by
  intro j hj
  rw [List.getElem?_set]
  by_cases e : k = j
  · subst e; simp; omega
  · rw [if_neg e]; exact h j (by omega)
theorem set_other {xs : List Value} {f : Nat → Value} {k m : Nat} (u : Value) (hm : m ≤ k) (h : ∀ j, j < m → xs[j]? = some (f j)) : ∀ j, j < m → (xs.set k u)[j]? = some (f j) := by
  intro j hj
  rw [List.getElem?_set, if_neg (by omega)]
  exact h j hj
theorem Row.cells {W : World} {base g N : Nat} {xs : List Value} (h : Row W base g N xs) (j : Nat) (hj : j < N) {v : Value} (e : xs[j]? = some v) : W.cell? ⟨g, j, none⟩ = some v := (World.ownsRow.cellAt h j (by omega)).trans e

set_option maxRecDepth 100000 in
set_option maxHeartbeats 2000000 in
theorem hand_some (b off n c : Nat) (zs : Nat → Int) (w : World) (hn : n ≤ 17592186043904) (hb : b < w.heap.size) (hu : ∀ j, j < n → w.cell? ⟨b, off + j, none⟩ = some (.int .i64 (zs j))) :
    Calls Tryz.prog 11 #[.slice (some ⟨b, off, none⟩) n c] w fun e W' => ∃ g, e = .returned (.slice (some ⟨g, 0, none⟩) n (n + 9)) ∧ w.heap.size ≤ g ∧ g < W'.heap.size ∧ Handed W' g n zs ∧ Below w.heap.size w W' := by
  obtain ⟨i0, hi, hz0, hz1, hz2⟩ := info_parts infoInt
  have HU := keepH hu
  clear hu
  go_enter Tryz.func11, Tryz.ntmps11
  go_wp2_with (at_make; refine wpList_make_full _ rfl _ _ 23 rfl w.heap.size 3 i0 (.int .i64 0) 1 Tryz.underlying23 hi hz0 hz1 .i64 .i64 _ _ (n + 9) rfl rfl (by omega) (by omega) (by rw [hz2]; omega) (by unfold maxLen; omega) (Nat.le_refl _) ?_; intro w1 hown1 hgrow1)
  have R1 : Row w1 w.heap.size w.heap.size (n + 9) _ := hown1
  have B1 : Below w.heap.size w w1 := (Below.refl _ w).grown hgrow1 (Nat.le_refl _) (fun j ej => by cases ej)
  clear hown1 hgrow1
  go_loopw [4] (fun i wr => ∃ (k : Nat) (xs : List Value), k ≤ n ∧ i = .int .i64 (k : Int) ∧ Hid (Row wr w.heap.size w.heap.size (n + 9) xs) ∧ Hid (∀ j, j < k → xs[j]? = some (.int .i64 (zs j))) ∧ Below w.heap.size w wr) (fun i _ => n - (intOf i).toNat)
  case atStart => exact ⟨0, _, by omega, rfl, R1, fun j hj => by omega, B1⟩
  case round =>
    obtain ⟨k, xs, hk, rfl, HR, HX, hB⟩ := hrel
    by_cases hlt : k < n
    · obtain ⟨v0, c0, f0⟩ := HR.out.at k (by omega)
      have x1 : wr.cell? ⟨b, off + k, none⟩ = some (.int .i64 (zs k)) := (hB.cell (p := ⟨b, off + k, none⟩) hb).trans (HU.out k hlt)
      have i1 : (k : Int) < (n : Int) := by omega
      have hl : xs.length = n + 9 := by have := HR.out.1; omega
      go_wp2
      go_roundw
      case rel => exact ⟨k + 1, _, by omega, by go_num, HR.out.put k (.int .i64 (zs k)), set_keep (f := fun j => .int .i64 (zs j)) hl (by omega) HX.out, hB.setCell (p := ⟨w.heap.size, k, none⟩) (Nat.le_refl _) _⟩
      case measure => simp [intOf]; omega
    · obtain rfl : k = n := by omega
      have HX0 := HX
      go_wp2
      go_loopw [5] (fun i wr => ∃ (m : Nat) (xs : List Value), m ≤ 9 ∧ i = .int .i64 ((k : Int) + (m : Int)) ∧ Hid (Row wr w.heap.size w.heap.size (k + 9) xs) ∧ Hid (∀ j, j < k → xs[j]? = some (.int .i64 (zs j))) ∧ Hid (∀ j, j < m → xs[k + j]? = some (.int .i64 (-700 - (j : Int)))) ∧ Below w.heap.size w wr) (fun i _ => k + 9 - (intOf i).toNat)
      case atStart => exact ⟨0, _, by omega, by simp, HR, HX0, fun j hj => by omega, hB⟩
      case round =>
        obtain ⟨m, ys, hm, rfl, HS, HY, HZ, hC⟩ := hrel
        by_cases hlt2 : m < 9
        · obtain ⟨v0, c0, f0⟩ := HS.out.at (k + m) (by omega)
          have i1 : (k : Int) + (m : Int) < (k : Int) + 9 := by omega
          have hl : ys.length = k + 9 := by have := HS.out.1; omega
          go_wp2
          go_roundw
          case rel =>
            refine ⟨m + 1, _, by omega, by go_num, HS.out.put (k + m) _, set_other _ (by omega) HY.out, fun j hj => ?_, hC.setCell (p := ⟨w.heap.size, k + m, none⟩) (Nat.le_refl _) _⟩
            rw [List.getElem?_set]
            by_cases e : m = j
            · subst e
              rw [if_pos rfl, if_pos (by omega)]
              exact congrArg (fun z : Int => some (Value.int .i64 z)) (by omega)
            · rw [if_neg (by omega)]
              exact HZ.out j (by omega)
          case measure => simp [intOf]; omega
        · obtain rfl : m = 9 := by omega
          go_wp2
          go_ret
          exact ⟨w.heap.size, rfl, Nat.le_refl _, HS.out.base.2, ⟨fun j hj => HS.out.cells j (by omega) (HY.out j hj), fun j hj => HS.out.cells (k + j) (by omega) (HZ.out j hj)⟩, hC⟩

set_option maxRecDepth 100000 in
set_option maxHeartbeats 2000000 in
theorem hand_zero (p : Option Addr) (c : Nat) (zs : Nat → Int) (w : World) :
    Calls Tryz.prog 11 #[.slice p 0 c] w fun e W' => ∃ g, e = .returned (.slice (some ⟨g, 0, none⟩) 0 9) ∧ w.heap.size ≤ g ∧ g < W'.heap.size ∧ Handed W' g 0 zs ∧ Below w.heap.size w W' := by
  obtain ⟨i0, hi, hz0, hz1, hz2⟩ := info_parts infoInt
  go_enter Tryz.func11, Tryz.ntmps11
  go_wp2_with (at_make; refine wpList_make_full _ rfl _ _ 23 rfl w.heap.size 3 i0 (.int .i64 0) 1 Tryz.underlying23 hi hz0 hz1 .i64 .i64 _ _ 9 rfl rfl (by omega) (by omega) (by rw [hz2]; omega) (by unfold maxLen; omega) (Nat.le_refl _) ?_; intro w1 hown1 hgrow1)
  have R1 : Row w1 w.heap.size w.heap.size 9 _ := hown1
  have B1 : Below w.heap.size w w1 := (Below.refl _ w).grown hgrow1 (Nat.le_refl _) (fun j ej => by cases ej)
  clear hown1 hgrow1
  go_loopw [4] (fun i wr => i = .int .i64 0 ∧ wr = w1) (fun _ _ => 0)
  case atStart => exact ⟨rfl, rfl⟩
  case round =>
    obtain ⟨rfl, rfl⟩ := hrel
    have HR := keepH R1
    have hB := B1
    have HX := keepH (show ∀ j, j < 0 → (madeCells (Value.int .i64 0).cells ((0 + 9) * 1)).toList[j]? = some (.int .i64 (zs j)) from fun j hj => by omega)
    clear R1 B1
    have HX0 := HX
    go_wp2
    go_loopw [5] (fun i wr => ∃ (m : Nat) (xs : List Value), m ≤ 9 ∧ i = .int .i64 ((m : Int)) ∧ Hid (Row wr w.heap.size w.heap.size 9 xs) ∧ Hid (∀ j, j < 0 → xs[j]? = some (.int .i64 (zs j))) ∧ Hid (∀ j, j < m → xs[j]? = some (.int .i64 (-700 - (j : Int)))) ∧ Below w.heap.size w wr) (fun i _ => 9 - (intOf i).toNat)
    case atStart => exact ⟨0, _, by omega, by simp, HR, HX0, fun j hj => by omega, hB⟩
    case round =>
      obtain ⟨m, ys, hm, rfl, HS, HY, HZ, hC⟩ := hrel
      by_cases hlt2 : m < 9
      · obtain ⟨v0, c0, f0⟩ := HS.out.at m (by omega)
        have i1 : (m : Int) < 9 := by omega
        have hl : ys.length = 9 := by have := HS.out.1; omega
        go_wp2
        go_roundw
        case rel =>
          refine ⟨m + 1, _, by omega, by go_num, HS.out.put m _, set_other _ (by omega) HY.out, fun j hj => ?_, hC.setCell (p := ⟨w.heap.size, m, none⟩) (Nat.le_refl _) _⟩
          rw [List.getElem?_set]
          by_cases e : m = j
          · subst e
            rw [if_pos rfl, if_pos (by omega)]
            first | done | exact congrArg (fun z : Int => some (Value.int .i64 z)) (by omega)
          · rw [if_neg (by omega)]
            exact HZ.out j (by omega)
        case measure => simp [intOf]; omega
      · obtain rfl : m = 9 := by omega
        go_wp2
        go_ret
        exact ⟨w.heap.size, rfl, Nat.le_refl _, HS.out.base.2, ⟨fun j hj => HS.out.cells j (by omega) (HY.out j hj), fun j hj => HS.out.cells (0 + j) (by omega) (by rw [Nat.zero_add]; exact HZ.out j hj)⟩, hC⟩

theorem IReads.handed {W : World} {g : Nat} {zs : List Int} (h : Handed W g zs.length (fun j => zs.getD j 0)) (hg : g < W.heap.size) : IReads W (some ⟨g, 0, none⟩) zs := by
  refine .inr ⟨g, 0, rfl, hg, fun i x hx => ?_⟩
  have hl := (List.getElem?_eq_some_iff.1 hx).1
  have e := h.1 i hl
  simp only [List.getD_eq_getElem?_getD, hx] at e
  simpa using e
theorem Handed.chg {W X : World} {g n : Nat} {zs : Nat → Int} {F : Nat → Prop} (h : Handed W g n zs) (c : Chg F W X) (hF : ¬ F g) : Handed X g n zs := ⟨fun j hj => cell_chg c (h.1 j hj) hF, fun j hj => cell_chg c (h.2 j hj) hF⟩
theorem hand_ints (p : Option Addr) (c : Nat) (zs : List Int) (W : World) (h : IReads W p zs) (hn : zs.length ≤ 17592186043904) :
    Calls Tryz.prog 11 #[.slice p zs.length c] W fun e W' => ∃ g, e = .returned (.slice (some ⟨g, 0, none⟩) zs.length (zs.length + 9)) ∧ W.heap.size ≤ g ∧ g < W'.heap.size ∧ Handed W' g zs.length (fun j => zs.getD j 0) ∧ Chg (fun _ => False) W W' := by
  rcases h with rfl | ⟨bk, off, rfl, hb, h⟩
  · refine (hand_zero p c (fun j => ([] : List Int).getD j 0) W).mono ?_
    rintro e W' ⟨g, rfl, h1, h2, h3, h4⟩
    exact ⟨g, rfl, h1, h2, h3, (chg_below h4).mono (fun i hi x => by omega)⟩
  · refine (hand_some bk off zs.length c (fun j => zs.getD j 0) W hn hb (fun j hj => h j _ (by rw [List.getD_eq_getElem?_getD, List.getElem?_eq_getElem hj]; rfl))).mono ?_
    rintro e W' ⟨g, rfl, h1, h2, h3, h4⟩
    exact ⟨g, rfl, h1, h2, h3, (chg_below h4).mono (fun i hi x => by omega)⟩

set_option maxRecDepth 100000 in
set_option maxHeartbeats 1000000 in
theorem kept_ints (g : Nat) (p : Option Addr) (c : Nat) (zs : List Int) (w : World) (hh : Handed w g zs.length (fun j => zs.getD j 0)) (hg : g < w.heap.size) (h : IReads w p zs) (hn : zs.length ≤ 17592186043904) :
    Calls Tryz.prog 13 #[.slice (some ⟨g, 0, none⟩) zs.length (zs.length + 9), .slice p zs.length c] w fun e W' => e = .returned (.bool true) ∧ Chg (fun _ => False) w W' := by
  have HS := keepH (r_sameI (some ⟨g, 0, none⟩) p (zs.length + 9) c zs w (IReads.handed hh hg) h (by omega))
  obtain ⟨n, hnn⟩ : ∃ n, n = zs.length := ⟨_, rfl⟩
  rw [← hnn] at hh hn HS ⊢
  have HH := keepH hh
  clear hh h hnn hg
  go_enter Tryz.func13, Tryz.ntmps13
  go_wp2_with fail
  refine HS.out.mono ?_
  rintro e w1 ⟨rfl, C1⟩
  have H1 : Hid (∀ j, j < 9 → w1.cell? ⟨g, n + j, none⟩ = some (.int .i64 (-700 - (j : Int)))) := fun j hj => cell_chg C1 (HH.out.2 j hj) (fun x => x)
  have HC := keepH C1
  clear C1
  go_wp2_with fail
  go_loopw [6] (fun i wr => ∃ m : Nat, m ≤ 9 ∧ i = .int .i64 ((n : Int) + (m : Int)) ∧ wr = w1) (fun i _ => n + 9 - (intOf i).toNat)
  case atStart => exact ⟨0, by omega, by simp, rfl⟩
  case round =>
    obtain ⟨m, hm, rfl, hw⟩ := hrel
    subst hw
    by_cases hlt : m < 9
    · have x1 := H1.out m hlt
      have e1 : ((-700 - (m : Int)) != (-700 - ((n : Int) + (m : Int)) + (n : Int))) = false := by
        rw [show (-700 - ((n : Int) + (m : Int)) + (n : Int)) = -700 - (m : Int) by omega]; simp
      have i1 : (n : Int) + (m : Int) < (n : Int) + 9 := by omega
      go_wp2_with fail
      go_roundw
      case rel => exact ⟨m + 1, by omega, by go_num, (by first | rfl | trivial)⟩
      case measure => simp [intOf]; omega
    · obtain rfl : m = 9 := by omega
      go_wp2_with fail
      go_ret
      exact ⟨by simp, HC.out⟩
end Go.Proofs.YtnhiodmigmmfgaaGreat
/- StepRuns, walked. -/
namespace Go.Proofs.YtnhiodmigmmfgaaGreat
open Go.RowKit Go.Shelf
set_option linter.unusedVariables false

theorem rem_start9 (ll : List (List PlP)) (lp : Nat → Nat → Option Addr) (lc : Nat → Nat → Nat) : rem ll.length (clOf ll) (c0Of ll lp lc) = sumTo (fun i => match ll[i]? with | some l => pre l l.length | none => 0) ll.length := by
  unfold rem
  refine sumTo_congr (fun i hi => ?_)
  rw [lOf_get hi]
  show remT (clOf ll) (c0Of ll lp lc) i = pre (lOf ll i) (lOf ll i).length
  rw [pre_sum _ _ (Nat.le_refl _)]
  unfold remT
  refine sumTo_congr (fun j hj => ?_)
  rw [qOf_get hj]
  show (if j < 0 then 0 else rp (s0Of ll lp lc i j)) = nst (qOf ll i j)
  rw [if_neg (by omega)]
  rfl
theorem rem_run {Lo : Nat} {W0 : World} {most T : Nat} {cl : Nat → Nat} {pl : Nat → Nat → PlP} : ∀ (l : List Int) (c : Cfg PS), PInv T cl pl c → rem T cl (c.run (plK Lo W0) most T cl l) ≤ rem T cl c
  | [], _, _ => Nat.le_refl _
  | th :: l, c, h => by
    obtain ⟨h1, h2⟩ := h.pick (Lo := Lo) (W0 := W0) (most := most) th
    have := rem_run (Lo := Lo) (W0 := W0) (most := most) l _ h1
    show rem T cl ((c.pick (plK Lo W0) most T cl th).run (plK Lo W0) most T cl l) ≤ _
    omega
theorem Handed.same {W X : World} {g n : Nat} {zs : Nat → Int} (h : Handed W g n zs) (e : X.heap[g]? = W.heap[g]?) : Handed X g n zs := by
  have k : ∀ j, X.cell? ⟨g, j, none⟩ = W.cell? ⟨g, j, none⟩ := fun j => by unfold World.cell?; simp only [e]
  exact ⟨fun j hj => (k j).trans (h.1 j hj), fun j hj => (k _).trans (h.2 j hj)⟩
section
variable {W V0 X Y : World} {ll : List (List PlP)} {p : Option Addr} {c8 : Nat} {c d : Cfg PS} {wb q nm m r b : Nat} {sv : Value} {qv : Nat → Value} {vb : Nat → Nat} {pb : Nat → Nat → Nat}
/-- The program's Run over a list that was laid behind. -/
theorem Same9.run (h : Same9 W V0 Y ll p c8 c wb q nm m r b sv qv vb pb) (cc : Chg (fun _ => False) Y X) (g cap : Nat) (l : List Int) (hg : Y.heap.size ≤ g ∧ g < X.heap.size) (hI : ∀ w : World, w.heap[g]? = X.heap[g]? → IReads w (some ⟨g, 0, none⟩) l) (hn : c.st + l.length ≤ 16777216) :
    Calls Tryz.prog 12 #[.pointer (some ⟨r, 0, none⟩), .slice (some ⟨g, 0, none⟩) l.length cap] X fun e Z => e = .returned (.tuple #[]) ∧ Ahead9 W V0 Z ll p c8 (c.run (plK W.heap.size W) 200 ll.length (clOf ll) l) c wb q nm m r b sv qv vb pb ∧ Z.heap[g]? = X.heap[g]? ∧ X.heap.size ≤ Z.heap.size := by
  obtain ⟨s, ⟨K, g0, d0, h3, h4, h5, h6, h7⟩, h2⟩ := h.ex
  have g1 := g0.rebase cc (S' := fun k => (K k ∨ k = wb ∨ mineS ll.length sv qv k) ∨ k = g) (fun k e => by
    rcases e with e | e
    · exact .inl e
    · subst e; exact .inr hg)
  refine (gr_runS (some ⟨g, 0, none⟩) cap l g1 (fun c w z => hI w (z.kept g (.inr rfl)).1) hn).mono ?_
  rintro e Z ⟨rfl, g2⟩
  have kp : ∀ k, (K k ∨ k = wb ∨ mineS ll.length sv qv k) → Z.heap[k]? = Y.heap[k]? := fun k e => (g2.kept k (.inl e)).1.trans (cc.block k (g0.kept k e).2 (fun x => x))
  exact ⟨rfl, ⟨s, ⟨K, g2.rebase (Chg.refl _ _) (fun k e => .inl (.inl e)), d0.keep (Nat.le_trans cc.size g2.zsize) (fun k e => kp k (.inl e)), (kp wb (.inr (.inl rfl))).trans h3, h4, h5, h6, h7.kept (fun k e => kp k (.inr (.inr e)))⟩, h2⟩, (g2.kept g (.inr rfl)).1, g2.zsize⟩
theorem Ahead9.same (h : Ahead9 W V0 X ll p c8 c c wb q nm m r b sv qv vb pb) : Same9 W V0 X ll p c8 c wb q nm m r b sv qv vb pb := ⟨h.ex⟩
end
set_option maxRecDepth 100000 in
set_option maxHeartbeats 16000000 in
theorem runs_walk {W : World} {p : Option Addr} {c8 : Nat} {ll : List (List PlP)} {ap : Nat → Option Addr} {ac : Nat → Nat} {lp : Nat → Nat → Option Addr} {lc : Nat → Nat → Nat} (hP : ThsAt W W.heap.size p ll ap ac lp lc) (hll : ll.length ≤ 1048576) (hls : ∀ l ∈ ll, l.length ≤ 1048576) (hL : ∀ l ∈ ll, ∀ q ∈ l, q.L.length ≤ 1048576) (hsum : sumTo (fun i => match ll[i]? with | some l => pre l l.length | none => 0) ll.length ≤ 1048576) {pa : Option Addr} {ca : Nat} {la : List Int} (hA : IReads W pa la) (hla : la.length ≤ 1048576) (most : Int) (h63 : most ≤ 9223372036854775807) :
    Calls Tryz.prog 4 #[.slice p ll.length c8, .slice pa la.length ca, .int .i64 most] W fun e W' => e = .returned (.bool true) ∧ Chg (fun _ => False) W W' := by
  have HP := keepH hP
  have HLS := keepH hls
  have HL := keepH hL
  have HA := keepH hA
  have HL1 := keepH (s_live W)
  have HSUM := keepH hsum
  clear hP hls hL hA hsum
  go_enter Tryz.func4, Tryz.ntmps4
  go_wp2_with fail
  refine HL1.out.mono ?_
  rintro e V0 ⟨rfl, c0⟩
  have HC0 := keepH c0
  clear c0 HL1
  cases hb : tooL ll with
  | true =>
    have HB1 := keepH (both_long (c8 := c8) HC0.out HP.out hll HLS.out HL.out hb)
    clear hb
    go_wp2_with fail
    refine HB1.out.mono ?_
    rintro e Y1 ⟨wb1, rfl, c1⟩
    have HC1 : Hid (Chg (fun _ => False) W Y1) := HC0.out.trans c1 (fun _ _ x => x) (fun _ _ x => x)
    clear c1
    go_wp2_with fail
    go_ret
    exact ⟨by simp, HC1.out⟩
  | false =>
    have HB1 := keepH (both_all (c8 := c8) HC0.out HP.out hll HLS.out HL.out hb)
    clear hb
    go_wp2_with fail
    refine HB1.out.mono ?_
    rintro e Y1 ⟨wb, q, rfl, m, r, b, nm, sv, qv, vb, pb, K, hwb, hV, g1, d1, hK, hM, hm⟩
    obtain ⟨c0, hc0⟩ : ∃ c0, c0 = c0Of ll lp lc := ⟨_, rfl⟩
    have HS0 : Hid (Same9 W V0 Y1 ll p c8 c0 wb q nm m r b sv qv vb pb) := by
      rw [hc0]
      exact ⟨⟨r0S, hwx_start hwb hV g1 d1 hK hM hm, drx_start ll lp lc⟩⟩
    have HPI : Hid (∀ l, PInv ll.length (clOf ll) (qOf ll) (c0.run (plK W.heap.size W) 200 ll.length (clOf ll) l) ∧ ∀ x ∈ (c0.run (plK W.heap.size W) 200 ll.length (clOf ll) l).t, x.vals.length ≤ 1099511627776) := by
      rw [hc0]; exact fun l => c0_vals HP.out l
    have HST : Hid (∀ l, (c0.run (plK W.heap.size W) 200 ll.length (clOf ll) l).st = l.length) := fun l => by
      rw [run_st, hc0]; show 0 + l.length = _; omega
    have HREM : Hid (rem ll.length (clOf ll) c0 ≤ 1048576) := by rw [hc0, rem_start9]; exact HSUM.out
    have HPV : Hid (PInv ll.length (clOf ll) (qOf ll) c0) := by rw [hc0]; exact pinv_start ll lp lc
    have HIA : Hid (∀ w, Chg (fun _ => False) V0 w → IReads w pa la) := fun w cw => (HA.out.chg HC0.out).chg cw
    have HQ : Hid (∀ i j, i < ll.length → j < clOf ll i → ∀ e ∈ (qOf ll i j).L, e.vals.length ≤ 1099511627776) := fun i j hi hj e he => (((HP.out i (lOf ll i) (lOf_get hi)).2 j (qOf ll i j) (qOf_get hj)).2 _ e (List.getElem?_of_mem he).choose_spec).1.len
    clear hc0 hwb hV g1 d1 hK hM hm HB1 HA HSUM
    go_wp2_with fail
    refine (hand_ints pa ca la Y1 (HIA.out _ HS0.out.chg) (by omega)).mono ?_
    rintro e w1 ⟨g, rfl, hg1, hg2, hh, hc1⟩
    have HH := keepH hh
    have HG1 : Hid (Y1.heap.size ≤ g ∧ g < w1.heap.size) := ⟨hg1, hg2⟩
    have HC1 := keepH hc1
    have u1 := (HS0.out.quiet hc1).cell
    have HRUN := keepH (HS0.out.run HC1.out g (la.length + 9) la HG1.out (fun w e => IReads.handed (HH.out.same e) (by
      have lt := HG1.out.2
      rw [Array.getElem?_eq_getElem lt] at e
      exact (Array.getElem?_eq_some_iff.1 e).1)) (by have := HST.out []; rw [show c0.run (plK W.heap.size W) 200 ll.length (clOf ll) [] = c0 from rfl] at this; simp at this; omega))
    obtain ⟨c1, hcc1⟩ : ∃ c1, c1 = c0.run (plK W.heap.size W) 200 ll.length (clOf ll) la := ⟨_, rfl⟩
    rw [← hcc1] at HRUN
    have HI1 : Hid (Inv9 ll c1) := by
      rw [hcc1]
      have z := HPI.out la
      refine ⟨z.1, z.2, ?_⟩
      rw [HST.out]
      have := rem_run (Lo := W.heap.size) (W0 := W) (most := 200) la c0 HPV.out
      have := HREM.out
      omega
    have HC11 := keepH hcc1
    clear hh hg1 hg2 hc1 hcc1
    go_wp2_with fail
    refine HRUN.out.mono ?_
    rintro e w2 ⟨rfl, a2, k2, s2⟩
    have HA2 := keepH a2
    have HK := keepH (kept_ints g pa ca la w2 (HH.out.same k2) (by have := HG1.out.2; omega) (HIA.out _ a2.chg.1) (by omega))
    clear a2 k2 s2 u1 HRUN HH
    go_wp2_with fail
    refine HK.out.mono ?_
    rintro e w3 ⟨rfl, c3⟩
    have HA3 : Hid (Ahead9 W V0 w3 ll p c8 c1 c0 wb q nm m r b sv qv vb pb) := HA2.out.quiet c3
    clear c3 HA2 HK
    go_wp2_with fail
    go_loopw [11] (fun s wx => ∃ k : Nat, k ≤ la.length ∧ s = .int .i64 (k : Int) ∧ Hid (Ahead9 W V0 wx ll p c8 c1 (c0.run (plK W.heap.size W) 200 ll.length (clOf ll) (la.take k)) wb q nm m r b sv qv vb pb)) (fun s _ => la.length - (intOf s).toNat)
    case atStart => exact ⟨0, Nat.zero_le _, rfl, HA3⟩
    case round =>
      clear HA3 HC1 HG1
      obtain ⟨k, hkl, rfl, HS⟩ := hrel
      obtain ⟨w0, hw0⟩ : ∃ q, q = wr := ⟨_, rfl⟩
      subst hw0
      by_cases hk : k < la.length
      · have t1 : (k : Int) < (la.length : Int) := by omega
        obtain ⟨x, hx⟩ : ∃ x, la[k]? = some x := ⟨la[k], List.getElem?_eq_getElem hk⟩
        have HRN : Hid (c0.run (plK W.heap.size W) 200 ll.length (clOf ll) (la.take (k + 1)) = (c0.run (plK W.heap.size W) 200 ll.length (clOf ll) (la.take k)).pick (plK W.heap.size W) 200 ll.length (clOf ll) x) := Cfg.run_more _ _ _ _ _ _ _ _ hx
        have HPK := keepH (HS.out.pick HC0.out HP.out HLS.out HL.out (HPI.out _).1 (by rw [HST.out, List.length_take]; omega) x)
        obtain ⟨bk, off, epa, hbk, hcx⟩ := (HIA.out _ HS.out.chg.1).get k x hx
        subst epa
        clear hx hbk
        go_wp2_with fail
        refine HPK.out.mono ?_
        rintro e w5 ⟨rfl, a5⟩
        have HA5 := keepH a5
        clear a5
        go_wp2_with fail
        go_roundw
        case rel => exact ⟨k + 1, by omega, by first | rfl | go_num, by rw [HRN.out]; exact HA5⟩
        case measure => simp [intOf]; omega
      · have t1 : ¬ (k : Int) < (la.length : Int) := by omega
        have HS5 : Hid (Same9 W V0 w0 ll p c8 c1 wb q nm m r b sv qv vb pb) := by
          have z := HS.out
          rw [List.take_of_length_le (by omega), ← HC11.out] at z
          exact z.same
        have HAL := keepH (HS5.out.alike HC0.out HP.out HLS.out HI1.out.pi (by have := HI1.out.st; omega) HI1.out.vals)
        clear HS HPI HST HPV HREM HC11
        go_wp2_with fail
        refine HAL.out.mono ?_
        rintro e w6 ⟨rfl, h6⟩
        have HS6 := keepH h6
        clear h6 HAL HS5
        go_wp2_with fail
        go_loopw [12] (fun s wx => ∃ i : Nat, i ≤ 3 ∧ s = .int .i64 (i : Int) ∧ Hid (∃ c, Same9 W V0 wx ll p c8 c wb q nm m r b sv qv vb pb ∧ Inv9 ll c)) (fun s _ => 3 - (intOf s).toNat)
        case atStart => exact ⟨0, by omega, rfl, c1, HS6.out, HI1.out⟩
        case round =>
          clear HS6 HI1
          obtain ⟨i, hi3, rfl, HX⟩ := hrel
          obtain ⟨w7, hw7⟩ : ∃ q, q = wr := ⟨_, rfl⟩
          subst hw7
          obtain ⟨c, hs, hi⟩ := HX.out
          have HS := keepH hs
          have HI := keepH hi
          clear HX hs hi
          by_cases hlt : i < 3
          · have t1 : (i : Int) < 3 := by omega
            obtain ⟨d, hd⟩ : ∃ d, d = finR (plK W.heap.size W) 200 ll.length (clOf ll) most.toNat most.toNat c := ⟨_, rfl⟩
            obtain ⟨bb, hbb⟩ : ∃ bb, bb = decide (doneP ll.length (clOf ll) d) := ⟨_, rfl⟩
            have HPP : Hid (∀ Z, Same9 W V0 Z ll p c8 c wb q nm m r b sv qv vb pb → Calls Tryz.prog 14 #[.pointer (some ⟨r, 0, none⟩), .int .i64 most] Z fun e Y => e = .returned (.bool bb) ∧ Ahead9 W V0 Y ll p c8 d c wb q nm m r b sv qv vb pb ∧ Inv9 ll d) := fun Z hZ => by rw [hbb, hd]; exact hZ.finish HQ.out HI.out most h63
            have HPD : Hid (∀ Z, Ahead9 W V0 Z ll p c8 d c wb q nm m r b sv qv vb pb → Calls Tryz.prog 15 #[.pointer (some ⟨q, 0, none⟩), .int .i64 most] Z fun e Y => e = .returned (.bool bb) ∧ Same9 W V0 Y ll p c8 d wb q nm m r b sv qv vb pb) := fun Z hZ => by
              have z := hZ.finish HC0.out HP.out HLS.out HL.out HQ.out HI.out most h63
              rw [← hd, ← hbb] at z
              refine z.mono ?_
              rintro e Y ⟨rfl, h⟩
              exact ⟨rfl, h.same⟩
            clear hbb hd
            have u1 := HS.out.cell
            go_wp2_with fail
            refine (HPP.out _ HS.out).mono ?_
            rintro e y1 ⟨rfl, h1, i1⟩
            have HY1 := keepH h1
            have HI2 := keepH i1
            have HAL : Hid (∀ Z, Same9 W V0 Z ll p c8 d wb q nm m r b sv qv vb pb → Calls Tryz.prog 10 #[.pointer (some ⟨wb, 0, none⟩), .pointer (some ⟨q, 0, none⟩)] Z fun e Y => e = .returned (.bool true) ∧ Same9 W V0 Y ll p c8 d wb q nm m r b sv qv vb pb) := fun Z hZ => hZ.alike HC0.out HP.out HLS.out HI2.out.pi (by have := HI2.out.st; omega) HI2.out.vals
            clear h1 i1 u1
            go_wp2_with fail
            refine (HPD.out _ HY1.out).mono ?_
            rintro e y2 ⟨rfl, h2⟩
            have HY2 := keepH h2
            clear h2
            go_wp2_with fail
            refine (HAL.out _ HY2.out).mono ?_
            rintro e y3 ⟨rfl, h3⟩
            have HY3 := keepH h3
            clear h3
            go_wp2_with fail
            go_roundw
            case rel => exact ⟨i + 1, by omega, by first | rfl | go_num, d, HY3.out, HI2.out⟩
            case measure => simp [intOf]; omega
          · have t1 : ¬ (i : Int) < 3 := by omega
            have HC2 : Hid (Chg (fun _ => False) W w7) := HC0.out.trans HS.out.chg (fun _ _ x => x) (fun _ _ x => x)
            clear HS
            go_wp2_with fail
            go_ret
            exact ⟨by simp, HC2.out⟩
end Go.Proofs.YtnhiodmigmmfgaaGreat
/- Picks that come in. -/
namespace Go.Proofs.YtnhiodmigmmfgaaGreat
open Go.RowKit Go.Shelf Go.Joins Go.ChangeShapes Go.WideShapes Go.Deep
set_option linter.unusedVariables false

theorem coInt : Tryz.prog.cellsOf 3 = 1 := by kernel_rfl

set_option maxRecDepth 100000 in
theorem ints_open {H : Type} {enc : TypeId × Value → H} {W : World} {sp : Nat → Bool} {held : Bool} {p : Option Addr} {n c : Nat} {d : DataW H} {ps : List MemPlace} (h : DataW.Trod enc Tryz.prog W 0 sp held 23 (.slice p n c) d ps) :
    ∃ xs : List Int, xs.length = n ∧ IReads W p xs ∧ n ≤ Rows.uptoBulk d ∧ ∀ x ∈ xs, (Lit.int .i64 x).wf = true := by
  obtain ⟨fuel, hf⟩ := h
  rcases open_ints Tryz.underlying23 Tryz.underlying3 coInt hf with ⟨hcs, _⟩ | ⟨a, len, cap, zs, hcs, _, hl, hm, hme, hx, hi, hw⟩
  · simp [Value.cells] at hcs
    obtain ⟨rfl, rfl, rfl⟩ := hcs
    exact ⟨[], rfl, .inl rfl, Nat.zero_le _, fun x hx => by simp at hx⟩
  · simp [Value.cells] at hcs
    obtain ⟨rfl, rfl, rfl⟩ := hcs
    have hmn : n ≤ zs.length := by rw [hme]; split <;> omega
    have hb : n ≤ Rows.uptoBulk d := by
      simp only [Prod.mk.injEq] at hx
      rw [hx.1]
      have := bulk_length (H := H) (lits .i64 (zs.take n))
      simp only [Rows.uptoBulk]
      have e : (lits (H := H) .i64 (zs.take n)).length = n := by simp [lits]; omega
      omega
    refine ⟨zs.take n, by simp; omega, ?_, hb, fun x hx => hw x (List.mem_of_mem_take hx)⟩
    rcases Nat.eq_zero_or_pos n with h0 | h0
    · exact .inl (by rw [h0]; rfl)
    · obtain ⟨bk, off, spot⟩ := a
      have c0 := hi 0 (by omega)
      have hspot : spot = none := by simpa [Addr.add] using World.cell?_spot c0
      subst hspot
      have hbk : bk < W.heap.size := by
        by_cases cb : bk < W.heap.size
        · exact cb
        · simp [World.cell?, Addr.add, Array.getElem?_eq_none (show W.heap.size ≤ bk by omega)] at c0
      refine .inr ⟨bk, off, rfl, hbk, fun i x hx => ?_⟩
      have hin : i < n := by
        have := (List.getElem?_eq_some_iff.1 hx).1
        simp at this
        omega
      rw [List.getElem?_take, if_pos hin] at hx
      have e := hi i (by omega)
      rw [List.getD_eq_getElem?_getD, hx] at e
      have e3 : (⟨bk, off, none⟩ : Addr).add i = ⟨bk, off + i, none⟩ := by
        unfold Addr.add
        split <;> simp
      rw [← e3]
      simpa using e
end Go.Proofs.YtnhiodmigmmfgaaGreat
