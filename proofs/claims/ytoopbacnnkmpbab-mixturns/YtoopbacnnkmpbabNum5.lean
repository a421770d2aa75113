/- Plain numbers: the lanes of the count of ones, added up. -/
import Derived.Test.YtoopbacnnkmpbabNum4
namespace Go.Proofs.Ytoopbacnnkmpbab

theorem div1 {x g X : Nat} (h : x = g + 256 * X) (hg : g < 256) : x / 256 = X := by omega
theorem div2 {x g h X : Nat} (e : x = g + 256 * (h + 256 * X)) (hg : g < 256) (hh : h < 256) : x / 65536 = X := by omega
theorem div4 {x g h i j X : Nat} (e : x = g + 256 * (h + 256 * (i + 256 * (j + 256 * X)))) (hg : g < 256) (hh : h < 256) (hi : i < 256) (hj : j < 256) : x / 4294967296 = X := by
  have a := div2 e hg hh
  have b := div2 (x := x / 65536) (g := i) (h := j) (X := X) (by omega) hi hj
  omega
theorem fold_lanes (g0 g1 g2 g3 g4 g5 g6 g7 X1 X2 X3 X4 X5 X6 X7 x y z t : Nat) (h0 : g0 ≤ 8) (h1 : g1 ≤ 8) (h2 : g2 ≤ 8) (h3 : g3 ≤ 8) (h4 : g4 ≤ 8) (h5 : g5 ≤ 8) (h6 : g6 ≤ 8) (h7 : g7 ≤ 8)
    (e0 : x = g0 + 256 * X1) (e1 : X1 = g1 + 256 * X2) (e2 : X2 = g2 + 256 * X3) (e3 : X3 = g3 + 256 * X4) (e4 : X4 = g4 + 256 * X5) (e5 : X5 = g5 + 256 * X6) (e6 : X6 = g6 + 256 * X7) (e7 : X7 = g7)
    (hy : y = x + x / 256) (hz : z = y + y / 65536) (ht : t = z + z / 4294967296) :
    t % 128 = g0 + (g1 + (g2 + (g3 + (g4 + (g5 + (g6 + g7)))))) ∧ x < 1152921504606846976 ∧ y < 1152921504606846976 ∧ z < 1152921504606846976 ∧ t < 1152921504606846976 := by
  have b7 : X7 ≤ 8 := by omega
  have b6 : X6 ≤ 2056 := by omega
  have b5 : X5 ≤ 526344 := by omega
  have b4 : X4 ≤ 134744072 := by omega
  have b3 : X3 ≤ 34494482440 := by omega
  have b2 : X2 ≤ 8830587504648 := by omega
  have b1 : X1 ≤ 2260630401189896 := by omega
  have b0 : x ≤ 578721382704613384 := by omega
  rw [div1 e0 (by omega)] at hy
  have y0 : y = (g0 + g1) + 256 * ((g1 + g2) + 256 * (X2 + X3)) := by rw [hy, e0, e1, e2]; omega
  rw [div2 y0 (by omega) (by omega)] at hz
  have z0 : z = (g0 + g1 + g2 + g3) + 256 * ((g1 + g2 + g3 + g4) + 256 * ((g2 + g3 + g4 + g5) + 256 * ((g3 + g4 + g5 + g6) + 256 * (X4 + X5 + X6 + X7)))) := by
    rw [hz, y0, e2, e3, e4]
    clear hy hz ht y0 e0 e1 e2 e3 e4 b0 b1 b2 b3 b4 b5 b6
    omega
  rw [div4 z0 (by omega) (by omega) (by omega) (by omega)] at ht
  clear y0
  have t0 : t = (g0 + g1 + g2 + g3 + g4 + g5 + g6 + g7) + 256 * ((g1 + g2 + g3 + g4) + 256 * ((g2 + g3 + g4 + g5) + 256 * ((g3 + g4 + g5 + g6) + 256 * (X4 + X5 + X6 + X7))) + X5 + X6 + X7) := by
    rw [ht, z0, e4, e5, e6, e7]
    clear hy hz ht z0 e0 e1 e2 e3 e4 b0 b1 b2 b3 b4 b5 b6
    omega
  refine ⟨?_, by omega, by omega, by omega, by omega⟩
  generalize (g1 + g2 + g3 + g4) + 256 * ((g2 + g3 + g4 + g5) + 256 * ((g3 + g4 + g5 + g6) + 256 * (X4 + X5 + X6 + X7))) + X5 + X6 + X7 = R at t0
  clear hy hz ht z0 e0 e1 e2 e3 e4 e5 e6 b0 b1 b2 b3 b4 b5 b6
  omega
theorem lanes_succ (n x : Nat) : lanes (n + 1) x = ones8 (x % 256) + 256 * lanes n (x / 256) := rfl
theorem lanes_one (x : Nat) : lanes 1 x = ones8 (x % 256) := by rw [lanes_succ]; rfl
theorem sum_succ (n x : Nat) : bitsum x.testBit (8 * (n + 1)) = ones8 (x % 256) + bitsum (x / 256).testBit (8 * n) := ones_lane n x
theorem sum_one (x : Nat) : bitsum x.testBit (8 * 1) = ones8 (x % 256) := by rw [sum_succ 0]; rfl
theorem pop_all (v x y z t : Nat) (h : v < 18446744073709551616) (hx : x = p3 8 (p2 8 (p1 8 v))) (hy : y = x + x / 256) (hz : z = y + y / 65536) (ht : t = z + z / 4294967296) :
    t % 128 = onesN v ∧ x < 1152921504606846976 ∧ y < 1152921504606846976 ∧ z < 1152921504606846976 ∧ t < 1152921504606846976 := by
  rw [(lane_all 8 v (by simpa using h)).1] at hx
  have o : onesN v = bitsum v.testBit (8 * (7 + 1)) := rfl
  rw [sum_succ 7, sum_succ 6, sum_succ 5, sum_succ 4, sum_succ 3, sum_succ 2, sum_succ 1, sum_one] at o
  rw [o]
  exact fold_lanes _ _ _ _ _ _ _ _ _ _ _ _ _ _ _ x y z t (lanes_le _) (lanes_le _) (lanes_le _) (lanes_le _) (lanes_le _) (lanes_le _) (lanes_le _) (lanes_le _)
    (hx.trans (lanes_succ 7 _)) (lanes_succ 6 _) (lanes_succ 5 _) (lanes_succ 4 _) (lanes_succ 3 _) (lanes_succ 2 _) (lanes_succ 1 _) (lanes_one _) hy hz ht
end Go.Proofs.Ytoopbacnnkmpbab
