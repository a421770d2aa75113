/- Rows of structs that are written one by one; pairs handed in, and looked at again. -/
import Derived.Test.YtimlaamhjbhkmaaGreatZb
import Derived.Test.YtimlaamhjbhkmaaGreatMsW
import Derived.Deep.MidRow
namespace Go.Proofs.YtimlaamhjbhkmaaGreat
open Go.RowKit
set_option linter.unusedVariables false

def RowS (W : World) (base g : Nat) (e : TypeId) (s N : Nat) (xs : List Value) : Prop := W.ownsRow base e s (.slice (some ⟨g, 0, none⟩) N N) N xs
def putL (xs : List Value) : Nat → List Value → List Value
  | _, [] => xs
  | o, v :: vs => putL (xs.set o v) (o + 1) vs
theorem putL_len (vs : List Value) : ∀ (o : Nat) (xs : List Value), (putL xs o vs).length = xs.length := by
  induction vs with
  | nil => intro o xs; rfl
  | cons v vs ih => intro o xs; simp [putL, ih]
theorem putL_out (vs : List Value) : ∀ (o : Nat) (xs : List Value) (j : Nat), (j < o ∨ o + vs.length ≤ j) → (putL xs o vs)[j]? = xs[j]? := by
  induction vs with
  | nil => intro o xs j h; rfl
  | cons v vs ih =>
    intro o xs j h
    rw [putL, ih (o + 1) (xs.set o v) j (by simp at h; omega), List.getElem?_set, if_neg (by simp at h; omega)]
theorem putL_in (vs : List Value) : ∀ (o : Nat) (xs : List Value) (j : Nat) (u : Value), vs[j]? = some u → o + vs.length ≤ xs.length → (putL xs o vs)[o + j]? = some u := by
  induction vs with
  | nil => intro o xs j u h; simp at h
  | cons v vs ih =>
    intro o xs j u h hl
    simp at hl
    rw [putL]
    cases j with
    | zero =>
      simp at h
      subst h
      rw [putL_out vs (o + 1) _ (o + 0) (by omega), Nat.add_zero, List.getElem?_set_self (by omega)]
    | succ j =>
      have := ih (o + 1) (xs.set o v) j u (by simpa using h) (by simp; omega)
      rw [← this]
      congr 1
      omega
theorem RowS.puts {base g : Nat} {e : TypeId} {s N : Nat} (vs : List Value) : ∀ (o : Nat) (xs : List Value) (W : World), RowS W base g e s N xs → RowS (W.setCells g o vs) base g e s N (putL xs o vs) := by
  induction vs with
  | nil => intro o xs W h; exact h
  | cons v vs ih => intro o xs W h; exact ih (o + 1) (xs.set o v) (W.setCell ⟨g, o, none⟩ v) (World.ownsRow.stored h o v).1
theorem RowS.len {W : World} {base g : Nat} {e : TypeId} {s N : Nat} {xs : List Value} (h : RowS W base g e s N xs) : xs.length = N * s := h.1
theorem RowS.cell {W : World} {base g : Nat} {e : TypeId} {s N : Nat} {xs : List Value} (h : RowS W base g e s N xs) (j : Nat) (hj : j < N * s) : W.cell? ⟨g, j, none⟩ = xs[j]? := World.ownsRow.cellAt h j hj
theorem RowS.there {W : World} {base g : Nat} {e : TypeId} {s N : Nat} {xs : List Value} (h : RowS W base g e s N xs) (o k : Nat) (hk : o + k ≤ N * s) : W.there g o k := fun j hj => by
  refine ⟨?_, World.ownsRow.frozenAt h (o + j)⟩
  rw [h.cell (o + j) (by omega), List.getElem?_eq_getElem (by have := h.len; omega)]
  rfl
theorem RowS.lt {W : World} {base g : Nat} {e : TypeId} {s N : Nat} {xs : List Value} (h : RowS W base g e s N xs) : base ≤ g ∧ g < W.heap.size := by
  rcases h.2 with ⟨h', _⟩ | ⟨g', cap', cur, h', hb, hg, _⟩
  · simp at h'
  · simp only [Value.slice.injEq, Option.some.injEq, Addr.mk.injEq, and_true, true_and] at h'
    obtain ⟨rfl, _⟩ := h'
    exact ⟨hb, (Array.getElem?_eq_some_iff.1 hg).1⟩
theorem RowS.chg {F : Nat → Prop} {W W' : World} {base g : Nat} {e : TypeId} {s N : Nat} {xs : List Value} (h : RowS W base g e s N xs) (c : Chg F W W') (hn : ¬ F g) : RowS W' base g e s N xs := by
  obtain ⟨hl, h2⟩ := h
  rcases h2 with ⟨h', _⟩ | ⟨g', cap', cur, h', hb, hg, r⟩
  · simp at h'
  · simp only [Value.slice.injEq, Option.some.injEq, Addr.mk.injEq, and_true, true_and] at h'
    obtain ⟨rfl, rfl⟩ := h'
    exact ⟨hl, .inr ⟨g, N, cur, rfl, hb, (c.block g (Array.getElem?_eq_some_iff.1 hg).1 hn).trans hg, r⟩⟩
theorem setsChg (g o : Nat) (vs : List Value) (W : World) : Chg (fun k => k = g) W (W.setCells g o vs) := setCells_chg g vs o W
/-- Pairs with marked places behind them. -/
structure HandedP (W : World) (g : Nat) (l : List (Nat × Nat)) : Prop where
  cs : ∀ (i k x : Nat), l[i]? = some (k, x) → W.cell? ⟨g, i * 2, none⟩ = some (.int .u64 (k : Int)) ∧ W.cell? ⟨g, i * 2 + 1, none⟩ = some (.int .u64 (x : Int))
  mks : ∀ j, j < 9 → W.cell? ⟨g, (l.length + j) * 2, none⟩ = some (.int .u64 (2305843009213693952 + (j : Int))) ∧ W.cell? ⟨g, (l.length + j) * 2 + 1, none⟩ = some (.int .u64 0)
theorem HandedP.chg {F : Nat → Prop} {W X : World} {g : Nat} {l : List (Nat × Nat)} (h : HandedP W g l) (c : Chg F W X) (hF : ¬ F g) : HandedP X g l :=
  ⟨fun i k x hx => ⟨cell_chg c (h.cs i k x hx).1 hF, cell_chg c (h.cs i k x hx).2 hF⟩, fun j hj => ⟨cell_chg c (h.mks j hj).1 hF, cell_chg c (h.mks j hj).2 hF⟩⟩
theorem PairsAt.small {W : World} {p : Option Addr} {l : List (Nat × Nat)} (h : PairsAt W p l) : ∀ (i k x : Nat), l[i]? = some (k, x) → k < 18446744073709551616 ∧ x < 18446744073709551616 := by
  rcases h with rfl | ⟨bk, off, rfl, hb, h⟩
  · intro i k x hx; simp at hx
  · intro i k x hx; exact ⟨(h i k x hx).1, (h i k x hx).2.1⟩
theorem HandedP.pairs {W : World} {g : Nat} {l : List (Nat × Nat)} (h : HandedP W g l) (hg : g < W.heap.size) (hs : ∀ (i k x : Nat), l[i]? = some (k, x) → k < 18446744073709551616 ∧ x < 18446744073709551616) : PairsAt W (some ⟨g, 0, none⟩) l :=
  .inr ⟨g, 0, rfl, hg, fun i k x hx => ⟨(hs i k x hx).1, (hs i k x hx).2, by simpa using (h.cs i k x hx).1, by simpa using (h.cs i k x hx).2⟩⟩
/-- How far a row of pairs is written. -/
structure HP (W wr : World) (g N : Nat) (l : List (Nat × Nat)) (k m : Nat) (xs : List Value) : Prop where
  row : RowS wr W.heap.size g 52 2 N xs
  cs : ∀ (i a b : Nat), i < k → l[i]? = some (a, b) → xs[i * 2]? = some (.int .u64 (a : Int)) ∧ xs[i * 2 + 1]? = some (.int .u64 (b : Int))
  mks : ∀ j, j < m → xs[(l.length + j) * 2]? = some (.int .u64 (2305843009213693952 + (j : Int))) ∧ xs[(l.length + j) * 2 + 1]? = some (.int .u64 0)
  chg : Chg (fun _ => False) W wr
theorem HP.put {W wr : World} {g N : Nat} {l : List (Nat × Nat)} {k : Nat} {xs : List Value} (h : HP W wr g N l k 0 xs) {a b : Nat} (hk : l[k]? = some (a, b)) (hN : k < N) (hg : W.heap.size ≤ g) : HP W (wr.setCells g (k * 2) [.int .u64 (a : Int), .int .u64 (b : Int)]) g N l (k + 1) 0 (putL xs (k * 2) [.int .u64 (a : Int), .int .u64 (b : Int)]) := by
  have hl := h.row.len
  refine ⟨h.row.puts _ _ _, fun i c d hi hx => ?_, fun j hj => by omega, h.chg.trans (setsChg g _ _ _) (fun _ _ x => x) (fun i hi e => by omega)⟩
  by_cases e : i = k
  · subst e
    rw [hk] at hx
    injection hx with hx
    injection hx with h1 h2
    subst h1 h2
    exact ⟨putL_in _ (i * 2) xs 0 _ rfl (by simp; omega), putL_in _ (i * 2) xs 1 _ rfl (by simp; omega)⟩
  · obtain ⟨q1, q2⟩ := h.cs i c d (by omega) hx
    rw [putL_out _ _ _ _ (.inl (by omega)), putL_out _ _ _ _ (.inl (by omega))]
    exact ⟨q1, q2⟩
theorem HP.mark {W wr : World} {g N : Nat} {l : List (Nat × Nat)} {m : Nat} {xs : List Value} (h : HP W wr g N l l.length m xs) (hN : N = l.length + 9) (hm : m < 9) (hg : W.heap.size ≤ g) : HP W (wr.setCells g ((l.length + m) * 2) [.int .u64 (2305843009213693952 + (m : Int)), .int .u64 0]) g N l l.length (m + 1) (putL xs ((l.length + m) * 2) [.int .u64 (2305843009213693952 + (m : Int)), .int .u64 0]) := by
  have hl := h.row.len
  refine ⟨h.row.puts _ _ _, fun i c d hi hx => ?_, fun j hj => ?_, h.chg.trans (setsChg g _ _ _) (fun _ _ x => x) (fun i hi e => by omega)⟩
  · obtain ⟨q1, q2⟩ := h.cs i c d hi hx
    rw [putL_out _ _ _ _ (.inl (by omega)), putL_out _ _ _ _ (.inl (by omega))]
    exact ⟨q1, q2⟩
  · by_cases e : j = m
    · subst e
      exact ⟨putL_in _ ((l.length + j) * 2) xs 0 _ rfl (by simp; omega), putL_in _ ((l.length + j) * 2) xs 1 _ rfl (by simp; omega)⟩
    · obtain ⟨q1, q2⟩ := h.mks j (by omega)
      rw [putL_out _ _ _ _ (.inl (by omega)), putL_out _ _ _ _ (.inl (by omega))]
      exact ⟨q1, q2⟩
set_option maxRecDepth 100000 in
set_option maxHeartbeats 2000000 in
theorem hand_pairs (p : Option Addr) (c : Nat) (l : List (Nat × Nat)) (w : World) (h : PairsAt w p l) (hn : l.length ≤ 8796093021952) :
    Calls Tryz.prog 38 #[.slice p l.length c] w fun e W' => ∃ g, e = .returned (.slice (some ⟨g, 0, none⟩) l.length (l.length + 9)) ∧ w.heap.size ≤ g ∧ g < W'.heap.size ∧ HandedP W' g l ∧ Chg (fun _ => False) w W' := by
  obtain ⟨i0, hi, hz0, hz1, hz2⟩ := info_parts infoPair
  have HPA := keepH h
  clear h
  go_enter Tryz.func38, Tryz.ntmps38
  go_wp2_with (at_make; refine wpList_make_full _ rfl _ _ 38 rfl w.heap.size 52 i0 (.agg #[.int .u64 0, .int .u64 0]) 2 Tryz.underlying38 hi hz0 hz1 .i64 .i64 _ _ (l.length + 9) rfl rfl (by omega) (by omega) (by rw [hz2]; omega) (by unfold maxLen; omega) (Nat.le_refl _) ?_; intro w1 hown1 hgrow1)
  have HI : Hid (∃ xs, HP w w1 w.heap.size (l.length + 9) l 0 0 xs) := ⟨_, hown1, fun i a b hi => by omega, fun j hj => by omega, grown_chg hgrow1 (fun k e => by cases e)⟩
  clear hown1 hgrow1
  go_loopw [4] (fun s wr => ∃ k : Nat, k ≤ l.length ∧ s = .int .i64 (k : Int) ∧ Hid (∃ xs, HP w wr w.heap.size (l.length + 9) l k 0 xs)) (fun s _ => l.length - (intOf s).toNat)
  case atStart => exact ⟨0, Nat.zero_le _, rfl, HI⟩
  case round =>
    clear HI
    obtain ⟨k, hk, rfl, HK⟩ := hrel
    by_cases hlt : k < l.length
    · have t1 : (k : Int) < (l.length : Int) := by omega
      have t2 : (k : Int) < (l.length : Int) + 9 := by omega
      obtain ⟨⟨a, b⟩, hx⟩ : ∃ x, l[k]? = some x := ⟨l[k], List.getElem?_eq_getElem hlt⟩
      obtain ⟨xs, hxs⟩ := HK.out
      obtain ⟨bk, off, rfl, _, _, c0, c1⟩ := HPA.out.get hxs.chg k a b hx
      have HTH := keepH (hxs.row.there (k * 2) 2 (by omega))
      have HN := keepH (hxs.put hx (by omega) (Nat.le_refl _))
      clear hx hxs
      go_wp2_with (refine wpList_store_mid rfl 52 (.tmp 22) (.tmp 21) rfl w.heap.size (k * 2) #[.int .u64 (a : Int), .int .u64 (b : Int)] (by first | rfl | simp) rfl HTH.out (by kernel_rfl) (by kernel_rfl) ?_)
      go_roundw
      case rel => exact ⟨k + 1, by omega, by first | rfl | go_num, ⟨_, HN.out⟩⟩
      case measure => exact measN hlt
    · have t1 : ¬ (k : Int) < (l.length : Int) := by omega
      obtain rfl : k = l.length := by omega
      go_wp2_with fail
      go_loopw [5] (fun s wr => ∃ m : Nat, m ≤ 9 ∧ s = .int .i64 ((l.length : Int) + (m : Int)) ∧ Hid (∃ xs, HP w wr w.heap.size (l.length + 9) l l.length m xs)) (fun s _ => l.length + 9 - (intOf s).toNat)
      case atStart => exact ⟨0, by omega, by simp, HK⟩
      case round =>
        obtain ⟨m, hm, rfl, HM⟩ := hrel
        by_cases hlt2 : m < 9
        · have t2 : (l.length : Int) + (m : Int) < (l.length : Int) + 9 := by omega
          obtain ⟨xs, hxs⟩ := HM.out
          have HTH := keepH (hxs.row.there ((l.length + m) * 2) 2 (by omega))
          have HN := keepH (hxs.mark rfl hlt2 (Nat.le_refl _))
          clear hxs
          have e0 : (2305843009213693952 : Int) + ((l.length : Int) + (m : Int)) - (l.length : Int) = 2305843009213693952 + (m : Int) := by omega
          go_wp2_with (refine wpList_store_mid rfl 52 (.tmp 40) (.tmp 39) rfl w.heap.size ((l.length + m) * 2) #[.int .u64 (2305843009213693952 + (m : Int)), .int .u64 0] (by first | rfl | simp) (by first | rfl | simp) HTH.out (by kernel_rfl) (by kernel_rfl) ?_)
          go_roundw
          case rel => exact ⟨m + 1, by omega, by first | rfl | go_num, ⟨_, HN.out⟩⟩
          case measure => simp [intOf]; omega
        · obtain rfl : m = 9 := by omega
          have t2 : ¬ (l.length : Int) + 9 < (l.length : Int) + 9 := by omega
          go_wp2_with fail
          go_ret
          obtain ⟨xs, hxs⟩ := HM.out
          refine ⟨w.heap.size, by simp, Nat.le_refl _, hxs.row.lt.2, ⟨fun i a b hx => ?_, fun j hj => ?_⟩, hxs.chg⟩
          · have hi := (List.getElem?_eq_some_iff.1 hx).1
            rw [hxs.row.cell _ (by omega), hxs.row.cell _ (by omega)]
            exact hxs.cs i a b hi hx
          · rw [hxs.row.cell _ (by omega), hxs.row.cell _ (by omega)]
            exact hxs.mks j hj
end Go.Proofs.YtimlaamhjbhkmaaGreat
