/- What a stamp asks for in a row of versions. -/
import Derived.Test.YtciohnfbjaglbaaKw
namespace Go.Proofs.Ytciohnfbjaglbaa
open Go.RowKit Go.Shelf
set_option linter.unusedVariables false

def fstP (P : Nat → Bool) : Nat → Nat → Nat
  | 0, j => j
  | k + 1, j => if P j = true then j else fstP P k (j + 1)
theorem fstP_spec (P : Nat → Bool) : ∀ k j, j ≤ fstP P k j ∧ fstP P k j ≤ j + k ∧ (∀ i, j ≤ i → i < fstP P k j → P i = false) ∧ (fstP P k j < j + k → P (fstP P k j) = true) := by
  intro k
  induction k with
  | zero => intro j; exact ⟨Nat.le_refl _, Nat.le_refl _, fun i h1 h2 => absurd h2 (Nat.not_lt.2 h1), fun h => absurd h (Nat.lt_irrefl _)⟩
  | succ k ih =>
    intro j
    unfold fstP
    by_cases h : P j = true
    · rw [if_pos h]
      exact ⟨Nat.le_refl _, by omega, fun i h1 h2 => absurd h2 (Nat.not_lt.2 h1), fun _ => h⟩
    · rw [if_neg h]
      obtain ⟨h1, h2, h3, h4⟩ := ih (j + 1)
      refine ⟨by omega, by omega, fun i i1 i2 => ?_, fun hh => h4 (by omega)⟩
      by_cases e : i = j
      · subst e; simpa using h
      · exact h3 i (by omega) i2
theorem fstP_is {P : Nat → Bool} {K r : Nat} (h2 : r ≤ K) (h3 : ∀ i, i < r → P i = false) (h4 : r < K → P r = true) : fstP P K 0 = r := by
  obtain ⟨g1, g2, g3, g4⟩ := fstP_spec P K 0
  by_cases c : fstP P K 0 < r
  · have := h3 _ c
    rw [g4 (by omega)] at this
    simp at this
  · by_cases c2 : r < fstP P K 0
    · have := g3 r (by omega) c2
      rw [h4 (by omega)] at this
      simp at this
    · omega
def asks (s : Nat → Nat) (t k : Nat) : Bool := decide (s k ≠ 0) && decide (s k ≤ t)
def verV (cs : List Nat) (obj k : Nat) : Nat := cellN cs (hN cs obj k)
def verS (cs : List Nat) (obj k : Nat) : Nat := cellN cs (hN cs obj k + 1)
def atK (cs : List Nat) (obj K t : Nat) : Nat := fstP (asks (verS cs obj) t) K 0
def atV (cs : List Nat) (obj K t : Nat) : Nat := if atK cs obj K t < K then verV cs obj (atK cs obj K t) else 0
def atS (cs : List Nat) (obj K t : Nat) : Nat := if atK cs obj K t < K then verS cs obj (atK cs obj K t) else 0

set_option maxRecDepth 100000 in
set_option maxHeartbeats 2000000 in
theorem f_at (cs : List Nat) (obj K t : Nat) (v : Value) (W : World) (h : W.ownsRow 0 59 2 v K (verRow cs obj K)) (hK : K < 4611686018427387904) :
    Calls Try.prog 25 #[v, .int .u64 (t : Int)] W fun e W' => e = .returned (.agg #[.int .u64 (atV cs obj K t : Int), .int .u64 (atS cs obj K t : Int)]) ∧ Chg (fun _ => False) W W' := by
  obtain ⟨pv, cv, rfl⟩ := slice_of h
  obtain ⟨w0, hw0⟩ : ∃ w0, w0 = W.alloc (.cells #[.int .u64 0, .int .u64 0] 59) := ⟨_, rfl⟩
  have HB0 : Hid (w0.heap[W.heap.size]? = some (.cells #[.int .u64 0, .int .u64 0] 59 (0, 0))) := by rw [hw0]; exact heap_alloc_new _ _
  have HC0 : Hid (Chg (fun _ => False) W w0) := by rw [hw0]; exact (Chg.refl _ _).alloc _
  have HR0 : Hid (w0.ownsRow 0 59 2 (.slice pv K cv) K (verRow cs obj K)) := row_kept h fun k e => HC0.out.block k (row_lt h k e) (fun x => x)
  have c0 : w0.cell? ⟨W.heap.size, 0, none⟩ = some (.int .u64 0) := cell_of HB0.out 0
  have c1 : w0.cell? ⟨W.heap.size, 1, none⟩ = some (.int .u64 0) := cell_of HB0.out 1
  have f0 := free_of HB0.out 0
  have f1 := free_of HB0.out 1
  have HW0 := keepH hw0
  clear h hw0
  go_enter Try.func25, Try.ntmps25
  go_upto_region 1 with fail
  rw [← HW0.out]
  clear HW0
  go_wp2_with fail
  go_loopw [5] (fun s wr => ∃ k : Nat, k ≤ K ∧ s = .int .i64 (k : Int) ∧ Hid (∀ i, i < k → asks (verS cs obj) t i = false) ∧ wr = w0) (fun s _ => K - (intOf s).toNat)
  case atStart => exact ⟨0, by omega, rfl, keepH (fun i hi => by omega), rfl⟩
  case round =>
    obtain ⟨k, hk, rfl, HK0, rfl⟩ := hrel
    by_cases hlt : k < K
    · have t1 : (k : Int) < (K : Int) := by omega
      obtain ⟨g, cg, hg⟩ := slice_pos HR0.out (by omega)
      simp only [Value.slice.injEq, true_and] at hg
      obtain ⟨rfl, rfl⟩ := hg
      obtain ⟨a, ha⟩ : ∃ a, a = verV cs obj k := ⟨_, rfl⟩
      obtain ⟨s, hs⟩ : ∃ s, s = verS cs obj k := ⟨_, rfl⟩
      have va : wr.cell? ⟨g, k * 2, none⟩ = some (.int .u64 (a : Int)) := by rw [ha]; exact ver_cell HR0.out _ _ (by rw [Nat.mul_comm]; exact (verRow_get cs obj K k hlt).1)
      have vs : wr.cell? ⟨g, k * 2 + 1, none⟩ = some (.int .u64 (s : Int)) := by rw [hs]; exact ver_cell HR0.out _ _ (by rw [Nat.mul_comm]; exact (verRow_get cs obj K k hlt).2)
      have HA := keepH ha
      have HS := keepH hs
      clear ha hs
      by_cases s0 : s = 0
      · subst s0
        have HN : Hid (∀ i, i < k + 1 → asks (verS cs obj) t i = false) := fun i hi => by
          by_cases e : i = k
          · subst e; simp [asks, ← HS.out]
          · exact HK0.out i (by omega)
        go_wp2_with fail
        go_roundw
        case rel => exact ⟨k + 1, by omega, by go_num, HN, by first | rfl | trivial⟩
        case measure => simp [intOf]; omega
      · have e0 : ((s : Int) != 0) = true := bne_iff_ne.2 (by omega)
        by_cases le : s ≤ t
        · have le1 : (s : Int) ≤ (t : Int) := by omega
          have hat : atK cs obj K t = k := fstP_is hk HK0.out (fun _ => by simp [asks, ← HS.out, s0, le])
          have ev : atV cs obj K t = a := by unfold atV; rw [hat, if_pos hlt, HA.out]
          have es : atS cs obj K t = s := by unfold atS; rw [hat, if_pos hlt, HS.out]
          have HEV := keepH ev
          have HES := keepH es
          clear hat ev es
          go_wp2_with fail
          have q0 : ((wr.setCell ⟨W.heap.size, 0, none⟩ (.int .u64 (a : Int))).setCell ⟨W.heap.size, 1, none⟩ (.int .u64 (s : Int))).cell? ⟨W.heap.size, 0, none⟩ = some (.int .u64 (a : Int)) := cell_of (set_of (set_of HB0.out 0 _) 1 _) 0
          have q1 : ((wr.setCell ⟨W.heap.size, 0, none⟩ (.int .u64 (a : Int))).setCell ⟨W.heap.size, 1, none⟩ (.int .u64 (s : Int))).cell? ⟨W.heap.size, 1, none⟩ = some (.int .u64 (s : Int)) := cell_of (set_of (set_of HB0.out 0 _) 1 _) 1
          refine bodyPost_ret (v := .agg #[.int .u64 (a : Int), .int .u64 (s : Int)]) (by simp [results, Try.results25, go_sem, q0, q1]) rfl ⟨by first | (rw [HEV.out, HES.out]; done) | (rw [HEV.out, HES.out]; rfl), ?_⟩
          exact (HC0.out.setCell (p := ⟨W.heap.size, 0, none⟩) (fun x => absurd x (Nat.lt_irrefl _)) _).setCell (p := ⟨W.heap.size, 1, none⟩) (fun x => absurd x (Nat.lt_irrefl _)) _
        · have le1 : ¬ (s : Int) ≤ (t : Int) := by omega
          have HN : Hid (∀ i, i < k + 1 → asks (verS cs obj) t i = false) := fun i hi => by
            by_cases e : i = k
            · subst e; simp [asks, ← HS.out, le]
            · exact HK0.out i (by omega)
          go_wp2_with fail
          go_roundw
          case rel => exact ⟨k + 1, by omega, by go_num, HN, by first | rfl | trivial⟩
          case measure => simp [intOf]; omega
    · obtain rfl : k = K := by omega
      have hat : atK cs obj k t = k := fstP_is (Nat.le_refl _) HK0.out (fun h => absurd h (Nat.lt_irrefl _))
      have ev : atV cs obj k t = 0 := by unfold atV; rw [hat, if_neg (Nat.lt_irrefl _)]
      have es : atS cs obj k t = 0 := by unfold atS; rw [hat, if_neg (Nat.lt_irrefl _)]
      have HEV := keepH ev
      have HES := keepH es
      clear hat ev es
      go_wp2_with fail
      have q0 : ((wr.setCell ⟨W.heap.size, 0, none⟩ (.int .u64 0)).setCell ⟨W.heap.size, 1, none⟩ (.int .u64 0)).cell? ⟨W.heap.size, 0, none⟩ = some (.int .u64 0) := cell_of (set_of (set_of HB0.out 0 _) 1 _) 0
      have q1 : ((wr.setCell ⟨W.heap.size, 0, none⟩ (.int .u64 0)).setCell ⟨W.heap.size, 1, none⟩ (.int .u64 0)).cell? ⟨W.heap.size, 1, none⟩ = some (.int .u64 0) := cell_of (set_of (set_of HB0.out 0 _) 1 _) 1
      refine bodyPost_ret (v := .agg #[.int .u64 0, .int .u64 0]) (by simp [results, Try.results25, go_sem, q0, q1]) rfl ⟨by first | (rw [HEV.out, HES.out]; done) | (rw [HEV.out, HES.out]; rfl), ?_⟩
      exact (HC0.out.setCell (p := ⟨W.heap.size, 0, none⟩) (fun x => absurd x (Nat.lt_irrefl _)) _).setCell (p := ⟨W.heap.size, 1, none⟩) (fun x => absurd x (Nat.lt_irrefl _)) _
end Go.Proofs.Ytciohnfbjaglbaa
