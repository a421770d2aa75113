/- The document's models held against each other: Same over told rows. -/
import Derived.Deep.RegionHeld3
import Derived.Test.YtahgaghokpicgaaGreatF1MsL
import Derived.Test.YtahgaghokpicgaaGreatF6D6h
import Derived.Test.YtahgaghokpicgaaGreatF35D9c
import Derived.Test.YtahgaghokpicgaaGreatF34Nn
namespace Go.Proofs.YtahgaghokpicgaaGreat
open Go.RowKit Go.Maps
set_option linter.unusedVariables false
set_option maxHeartbeats 16000000
set_option linter.unusedSimpArgs false
structure Side6 where
 k : Nat
 p : Option Addr
 c : Nat
 l : List (Nat × Nat)
def SidesAt (W : World) (q : Option Addr) (Z : List Side6) : Prop := Z = [] ∨ ∃ bk off, q = some ⟨bk, off, none⟩ ∧ bk < W.heap.size ∧ ∀ (i : Nat) (z : Side6), Z[i]? = some z → z.k < 18446744073709551616 ∧ W.cell? ⟨bk, off + i * 2, none⟩ = some (.int .u64 z.k) ∧ W.cell? ⟨bk, off + i * 2 + 1, none⟩ = some (.slice z.p z.l.length z.c) ∧ PairsAt W z.p z.l ∧ z.l.length ≤ 17592186044416
theorem SidesAt.get {W : World} {q : Option Addr} {Z : List Side6} (h : SidesAt W q Z) (i : Nat) (z : Side6) (hz : Z[i]? = some z) : ∃ bk off, q = some ⟨bk, off, none⟩ ∧ bk < W.heap.size ∧ z.k < 18446744073709551616 ∧ W.cell? ⟨bk, off + i * 2, none⟩ = some (.int .u64 z.k) ∧ W.cell? ⟨bk, off + i * 2 + 1, none⟩ = some (.slice z.p z.l.length z.c) ∧ PairsAt W z.p z.l ∧ z.l.length ≤ 17592186044416 := by
 rcases h with rfl | ⟨bk, off, e, hb, h⟩
 ·simp at hz
 ·exact ⟨bk, off, e, hb, h i z hz⟩
def side6 (Z : List Side6) : List (Nat × List (Nat × Nat)) := Z.map (fun z => (z.k, z.l))
theorem side6_get {Z : List Side6} {i : Nat} {z : Side6} (h : Z[i]? = some z) : (side6 Z)[i]? = some (z.k, z.l) := by
 unfold side6
 rw [List.getElem?_map, h]
 rfl
theorem u64_neq (a b : Nat) (ha : a < 18446744073709551616) (hb : b < 18446744073709551616) : ((a : Int) != (b : Int)) = !decide (a = b) := by
 by_cases e : a = b
 ·subst e; simp
 ·have q : ¬ (a : Int) = (b : Int) := by omega
  simp [e, q]
set_option maxRecDepth 100000 in
theorem same6_walk {W : World} {m1 m2 : Nat} {mu : Int} {p1 p2 q1 q2 : Option Addr} {c1 c2 d1 d2 : Nat} {l1 l2 : List (Nat × Nat)} {Z1 Z2 : List Side6}
    (h1 : W.heap[m1]? = some (.cells #[.int .i64 mu, .slice p1 l1.length c1, .slice q1 Z1.length d1] 105 (0, 0))) (h2 : W.heap[m2]? = some (.cells #[.int .i64 mu, .slice p2 l2.length c2, .slice q2 Z2.length d2] 105 (0, 0)))
    (hP1 : PairsAt W p1 l1) (hP2 : PairsAt W p2 l2) (hl1 : l1.length ≤ 17592186044416) (hl2 : l2.length ≤ 17592186044416) (hZ1 : SidesAt W q1 Z1) (hZ2 : SidesAt W q2 Z2) (hZb : Z1.length ≤ 4000000) :
    Calls Tryz.prog 12 #[.pointer (some ⟨m1, 0, none⟩), .pointer (some ⟨m2, 0, none⟩)] W fun e W' => e = .returned (.bool (decide (l1 = l2 ∧ side6 Z1 = side6 Z2))) ∧ Chg (fun _ => False) W W' := by
 have hC : ∀ w, Chg (fun _ => False) W w → w.cell? ⟨m1, 0, none⟩ = some (.int .i64 mu) ∧ w.cell? ⟨m2, 0, none⟩ = some (.int .i64 mu) ∧ w.cell? ⟨m1, 1, none⟩ = some (.slice p1 l1.length c1) ∧ w.cell? ⟨m2, 1, none⟩ = some (.slice p2 l2.length c2) ∧ w.cell? ⟨m1, 2, none⟩ = some (.slice q1 Z1.length d1) ∧ w.cell? ⟨m2, 2, none⟩ = some (.slice q2 Z2.length d2) := fun w c => by
  have a := (c.block m1 (lt_of h1) (fun x => x)).trans h1
  have b := (c.block m2 (lt_of h2) (fun x => x)).trans h2
  exact ⟨cell_of a 0, cell_of b 0, cell_of a 1, cell_of b 1, cell_of a 2, cell_of b 2⟩
 have HP : Hid (∀ w, Chg (fun _ => False) W w → Calls Tryz.prog 39 #[.slice p1 l1.length c1, .slice p2 l2.length c2] w fun e w' => e = .returned (.bool (decide (l1 = l2))) ∧ Chg (fun _ => False) W w') := fun w c => (r_pairs p1 p2 c1 c2 l1 l2 w (hP1.chg c) (hP2.chg c) hl1 hl2).mono (fun e w' hh => ⟨hh.1, c.trans hh.2 (fun _ _ x => x) (fun _ _ x => x)⟩)
 have HZ1 := keepH hZ1
 have HZ2 := keepH hZ2
 have C0 : Chg (fun _ => False) W W := Chg.refl _ _
 have Cd : Chg (fun _ => False) W W.drew := C0.drew
 obtain ⟨T, hT⟩ : ∃ T, T = decide (l1 = l2 ∧ side6 Z1 = side6 Z2) := ⟨_, rfl⟩
 obtain ⟨t1, ht1⟩ : ∃ t1, t1 = decide (l1 = l2) := ⟨_, rfl⟩
 rw [← hT]
 obtain ⟨n1, hn1⟩ : ∃ n, n = l1.length := ⟨_, rfl⟩
 obtain ⟨n2, hn2⟩ : ∃ n, n = l2.length := ⟨_, rfl⟩
 obtain ⟨N1, hN1⟩ : ∃ n, n = Z1.length := ⟨_, rfl⟩
 obtain ⟨N2, hN2⟩ : ∃ n, n = Z2.length := ⟨_, rfl⟩
 rw [← hn1, ← hn2, ← hN1, ← hN2] at hC
 rw [← hn1, ← hn2, ← ht1] at HP
 have HT : Hid (T = decide (l1 = l2 ∧ side6 Z1 = side6 Z2) ∧ t1 = decide (l1 = l2) ∧ N1 = Z1.length ∧ N2 = Z2.length) := ⟨hT, ht1, hN1, hN2⟩
 have hNb : N1 ≤ 4000000 := by omega
 clear h1 h2 hP1 hP2 hl1 hl2 hZ1 hZ2 hT ht1 hn1 hn2 hN1 hN2 hZb
 cases t1 with
 | false =>
  go_enter Tryz.func12, Tryz.ntmps12
  go_wp2_with fail
  go_upto_region 3 with fail
  refine wp_region_held_drew (S := (fun w' => w'.cell? ⟨m1, 0, none⟩ = some (.int .i64 mu) ∧ w'.cell? ⟨m2, 0, none⟩ = some (.int .i64 mu) ∧ w'.cell? ⟨m1, 1, none⟩ = some (.slice p1 n1 c1) ∧ w'.cell? ⟨m2, 1, none⟩ = some (.slice p2 n2 c2) ∧ w'.cell? ⟨m1, 2, none⟩ = some (.slice q1 N1 d1) ∧ w'.cell? ⟨m2, 2, none⟩ = some (.slice q2 N2 d2))) (by kernel_rfl) (by first | exact hC _ C0 | exact hC _ Cd) ?_
  intro hHeld
  refine wT (v := ?_) 0 rfl (by rfl) ?_ hHeld ?_
  rotate_left
  ·intro w hSw
   try dsimp only at hSw
   go_simp
   try with_reducible rfl
  try simp only [Act.put, lj]
  refine wT (v := ?_) 1 rfl (by rfl) ?_ hHeld ?_
  rotate_left
  ·intro w hSw
   try dsimp only at hSw
   go_simp
   try with_reducible rfl
  try simp only [Act.put, lj]
  refine wT (v := ?_) 2 rfl (by rfl) ?_ hHeld ?_
  rotate_left
  ·intro w hSw
   try dsimp only at hSw
   go_simp
   try with_reducible rfl
  try simp only [Act.put, lj]
  refine wT (v := ?_) 3 rfl (by rfl) ?_ hHeld ?_
  rotate_left
  ·intro w hSw
   try dsimp only at hSw
   go_simp
   try with_reducible rfl
  try simp only [Act.put, lj]
  refine wT (v := ?_) 4 rfl (by rfl) ?_ hHeld ?_
  rotate_left
  ·intro w hSw
   try dsimp only at hSw
   go_simp
   try with_reducible rfl
  try simp only [Act.put, lj]
  refine wT (v := ?_) 5 rfl (by rfl) ?_ hHeld ?_
  rotate_left
  ·intro w hSw
   try dsimp only at hSw
   go_simp
   try with_reducible rfl
  try simp only [Act.put, lj]
  refine wT (v := ?_) 6 rfl (by rfl) ?_ hHeld ?_
  rotate_left
  ·intro w hSw
   try dsimp only at hSw
   go_simp
   try with_reducible rfl
  try simp only [Act.put, lj]
  refine wT (v := ?_) 7 rfl (by rfl) ?_ hHeld ?_
  rotate_left
  ·intro w hSw
   try dsimp only at hSw
   go_simp
   try with_reducible rfl
  try simp only [Act.put, lj]
  refine wT (v := ?_) 8 rfl (by rfl) ?_ hHeld ?_
  rotate_left
  ·intro w hSw
   try dsimp only at hSw
   go_simp
   try with_reducible rfl
  try simp only [Act.put, lj]
  refine wT (v := ?_) 9 rfl (by rfl) ?_ hHeld ?_
  rotate_left
  ·intro w hSw
   try dsimp only at hSw
   go_simp
   try with_reducible rfl
  try simp only [Act.put, lj]
  refine wT (v := ?_) 10 rfl (by rfl) ?_ hHeld ?_
  rotate_left
  ·intro w hSw
   try dsimp only at hSw
   go_simp
   try with_reducible rfl
  try simp only [Act.put, lj]
  refine wT (v := ?_) 11 rfl (by rfl) ?_ hHeld ?_
  rotate_left
  ·intro w hSw
   try dsimp only at hSw
   go_simp
   try with_reducible rfl
  try simp only [Act.put, lj]
  refine wT (v := ?_) 12 rfl (by rfl) ?_ hHeld ?_
  rotate_left
  ·intro w hSw
   try dsimp only at hSw
   go_simp
   try with_reducible rfl
  try simp only [Act.put, lj]
  refine wT (v := ?_) 13 rfl (by rfl) ?_ hHeld ?_
  rotate_left
  ·intro w hSw
   try dsimp only at hSw
   go_simp
   try with_reducible rfl
  try simp only [Act.put, lj]
  refine wT (v := ?_) 14 rfl (by rfl) ?_ hHeld ?_
  rotate_left
  ·intro w hSw
   try dsimp only at hSw
   go_simp
   try with_reducible rfl
  try simp only [Act.put, lj]
  refine wT (v := ?_) 15 rfl (by rfl) ?_ hHeld ?_
  rotate_left
  ·intro w hSw
   try dsimp only at hSw
   go_simp
   try with_reducible rfl
  try simp only [Act.put, lj]
  refine wT (v := ?_) 16 rfl (by rfl) ?_ hHeld ?_
  rotate_left
  ·intro w hSw
   try dsimp only at hSw
   go_simp
   try with_reducible rfl
  try simp only [Act.put, lj]
  refine wT (v := ?_) 17 rfl (by rfl) ?_ hHeld ?_
  rotate_left
  ·intro w hSw
   try dsimp only at hSw
   go_simp
   try with_reducible rfl
  try simp only [Act.put, lj]
  refine wR 18 rfl (fun KK hKK => ?_)
  go_simp
  refine (HP.out _ Cd).mono ?_
  rintro e z1 ⟨rfl, hz1⟩
  have hcc := hC _ hz1
  refine hKK.out _ _ ?_ (fun hHeld => ?_)
  ·exact hcc
  clear hKK KK
  try simp only [Act.put, lj]
  refine wT (v := ?_) 19 rfl (by rfl) ?_ hHeld ?_
  rotate_left
  ·intro w hSw
   try dsimp only at hSw
   go_simp
   try with_reducible rfl
  try simp only [Act.put, lj]
  refine wT (v := ?_) 20 rfl (by rfl) ?_ hHeld ?_
  rotate_left
  ·intro w hSw
   try dsimp only at hSw
   go_simp
   try with_reducible rfl
  try simp only [Act.put, lj]
  refine wT (v := ?_) 21 rfl (by rfl) ?_ hHeld ?_
  rotate_left
  ·intro w hSw
   try dsimp only at hSw
   go_simp
   try with_reducible rfl
  try simp only [Act.put, lj]
  refine wK 22 rfl hHeld ?_
  try simp only [Act.put, lj]
  refine wK 23 rfl hHeld ?_
  try simp only [Act.put, lj]
  refine wK 24 rfl hHeld ?_
  try simp only [Act.put, lj]
  refine wK 25 rfl hHeld ?_
  try simp only [Act.put, lj]
  refine wK 26 rfl hHeld ?_
  try simp only [Act.put, lj]
  refine wK 27 rfl hHeld ?_
  try simp only [Act.put, lj]
  refine wK 28 rfl hHeld ?_
  try simp only [Act.put, lj]
  refine wK 29 rfl hHeld ?_
  try simp only [Act.put, lj]
  refine wK 30 rfl hHeld ?_
  try simp only [Act.put, lj]
  refine wK 31 rfl hHeld ?_
  try simp only [Act.put, lj]
  refine wK 32 rfl hHeld ?_
  try simp only [Act.put, lj]
  refine wT (v := ?_) 33 rfl (by rfl) ?_ hHeld ?_
  rotate_left
  ·intro w hSw
   try dsimp only at hSw
   go_simp
   try with_reducible rfl
  try simp only [Act.put, lj]
  refine wpAnyH_done (by kernel_rfl) ?_ _
  go_simp
  all_goals (
   go_wp2_with fail
   go_ret
   have ht : ¬ l1 = l2 := by have := HT.out.2.1; simpa using this.symm
   exact ⟨by rw [HT.out.1]; simp [ht], by assumption⟩)
 | true =>
  have hl : l1 = l2 := by have := HT.out.2.1; simpa using this.symm
  have HL := keepH hl
  clear hl
  by_cases hN : N1 = N2
  ·have b1 : ((N1 : Int) != (N2 : Int)) = false := by rw [hN]; simp
   have HN := keepH hN
   clear hN
   go_enter Tryz.func12, Tryz.ntmps12
   go_wp2_with fail
   go_upto_region 3 with fail
   go_region_held3 (fun w' => w'.cell? ⟨m1, 0, none⟩ = some (.int .i64 mu) ∧ w'.cell? ⟨m2, 0, none⟩ = some (.int .i64 mu) ∧ w'.cell? ⟨m1, 1, none⟩ = some (.slice p1 n1 c1) ∧ w'.cell? ⟨m2, 1, none⟩ = some (.slice p2 n2 c2) ∧ w'.cell? ⟨m1, 2, none⟩ = some (.slice q1 N1 d1) ∧ w'.cell? ⟨m2, 2, none⟩ = some (.slice q2 N2 d2)) (first | exact hC _ (by assumption))
    (first | (go_at_call 39; refine (HP.out _ (by assumption)).mono ?_; rintro e z1 ⟨rfl, hz1⟩))
   all_goals (
    have HZC : Hid (Chg (fun _ => False) W z1) := by first | exact hz1 | assumption
    go_wp2_with fail
    go_loopw [5] (fun s wr => ∃ k : Nat, k ≤ N1 ∧ s = .int .i64 k ∧ Hid ((∀ j, j < k → (side6 Z1)[j]? = (side6 Z2)[j]?) ∧ Chg (fun _ => False) W wr)) (fun s _ => N1 - (intOf s).toNat)
    case atStart => exact ⟨0, by omega, rfl, keepH ⟨fun j h => absurd h (by omega), HZC.out⟩⟩
    case round =>
     obtain ⟨k, hk, rfl, HK⟩ := hrel
     obtain ⟨g1, g2, g3, g4, g5, g6⟩ := hC _ HK.out.2
     by_cases hlt : k < N1
     ·have t1 : (k : Int) < (N1 : Int) := by omega
      have t2 : (k : Int) < (N2 : Int) := by have := HN.out; omega
      have t0 : (0 : Int) ≤ (k : Int) := by omega
      obtain ⟨⟨k1, a1, e1, x1⟩, hx⟩ : ∃ x, Z1[k]? = some x := ⟨Z1[k]'(by have := HT.out; omega), List.getElem?_eq_getElem _⟩
      obtain ⟨⟨k2, a2, e2, x2⟩, hy⟩ : ∃ x, Z2[k]? = some x := ⟨Z2[k]'(by have := HT.out; have := HN.out; omega), List.getElem?_eq_getElem _⟩
      obtain ⟨bk, off, rfl, hb1, hk1, u1, v1, P1, L1⟩ := HZ1.out.get k _ hx
      obtain ⟨bk', off', rfl, hb2, hk2, u2, v2, P2, L2⟩ := HZ2.out.get k _ hy
      simp only at hk1 u1 v1 P1 L1 hk2 u2 v2 P2 L2
      have HX : Hid ((side6 Z1)[k]? = some (k1, x1) ∧ (side6 Z2)[k]? = some (k2, x2)) := ⟨side6_get hx, side6_get hy⟩
      have hq := u64_neq k1 k2 hk1 hk2
      have HQ : Hid (∀ w, Chg (fun _ => False) W w → Calls Tryz.prog 39 #[.slice a1 x1.length e1, .slice a2 x2.length e2] w fun e w' => e = .returned (.bool (decide (x1 = x2))) ∧ Chg (fun _ => False) W w') := fun w c => (r_pairs a1 a2 e1 e2 x1 x2 w (P1.chg c) (P2.chg c) L1 L2).mono (fun e w' hh => ⟨hh.1, c.trans hh.2 (fun _ _ x => x) (fun _ _ x => x)⟩)
      have hD : ∀ w, Chg (fun _ => False) W w → w.cell? ⟨m1, 2, none⟩ = some (.slice (some ⟨bk, off, none⟩) N1 d1) ∧ w.cell? ⟨m2, 2, none⟩ = some (.slice (some ⟨bk', off', none⟩) N2 d2) ∧ w.cell? ⟨bk, off + k * 2, none⟩ = some (.int .u64 k1) ∧ w.cell? ⟨bk, off + k * 2 + 1, none⟩ = some (.slice a1 x1.length e1) ∧ w.cell? ⟨bk', off' + k * 2, none⟩ = some (.int .u64 k2) ∧ w.cell? ⟨bk', off' + k * 2 + 1, none⟩ = some (.slice a2 x2.length e2) := fun w c => ⟨(hC w c).2.2.2.2.1, (hC w c).2.2.2.2.2, cell_chg c u1 (fun x => x), cell_chg c v1 (fun x => x), cell_chg c u2 (fun x => x), cell_chg c v2 (fun x => x)⟩
      have CK : Chg (fun _ => False) W wr := HK.out.2
      have CKd : Chg (fun _ => False) W wr.drew := CK.drew
      obtain ⟨nx1, hnx1⟩ : ∃ n, n = x1.length := ⟨_, rfl⟩
      obtain ⟨nx2, hnx2⟩ : ∃ n, n = x2.length := ⟨_, rfl⟩
      rw [← hnx1, ← hnx2] at hD HQ
      obtain ⟨s1, hs1⟩ : ∃ s, s = decide (k1 = k2) := ⟨_, rfl⟩
      obtain ⟨s2, hs2⟩ : ∃ s, s = decide (x1 = x2) := ⟨_, rfl⟩
      rw [← hs1] at hq
      rw [← hs2] at HQ
      have HSS : Hid (s1 = decide (k1 = k2) ∧ s2 = decide (x1 = x2)) := ⟨hs1, hs2⟩
      clear hx hy u1 v1 P1 L1 u2 v2 P2 L2 hk1 hk2 hb1 hb2 hC HP hnx1 hnx2 hs1 hs2 hlt
      cases s1 with
      | false =>
       simp only [Bool.not_false] at hq
       go_upto_region 8 with fail
       go_quiet (fail)
       go_wp2_with fail
       go_ret
       have hne : ¬ side6 Z1 = side6 Z2 := fun z => by
        have q := HX.out.1
        rw [z, HX.out.2] at q
        injection q with q
        injection q with q _
        have := HSS.out.1
        rw [q] at this
        simp at this
       exact ⟨by rw [HT.out.1]; simp [hne], HK.out.2.trans (H := fun _ => False) ⟨rfl, rfl, rfl, Nat.le_refl _, fun _ _ _ => rfl⟩ (fun _ _ x => x) (fun _ _ x => x)⟩
      | true =>
       simp only [Bool.not_true] at hq
       go_upto_region 8 with fail
       go_region_held3 (fun w' => w'.cell? ⟨m1, 2, none⟩ = some (.slice (some ⟨bk, off, none⟩) N1 d1) ∧ w'.cell? ⟨m2, 2, none⟩ = some (.slice (some ⟨bk', off', none⟩) N2 d2) ∧ w'.cell? ⟨bk, off + k * 2, none⟩ = some (.int .u64 k1) ∧ w'.cell? ⟨bk, off + k * 2 + 1, none⟩ = some (.slice a1 nx1 e1) ∧ w'.cell? ⟨bk', off' + k * 2, none⟩ = some (.int .u64 k2) ∧ w'.cell? ⟨bk', off' + k * 2 + 1, none⟩ = some (.slice a2 nx2 e2)) (first | exact hD _ (by assumption))
        (first | (go_at_call 39; refine (HQ.out _ (by assumption)).mono ?_; rintro e z2 ⟨rfl, hz2⟩))
       all_goals (
        cases s2 with
        | false =>
         go_wp2_with fail
         go_ret
         have hne : ¬ side6 Z1 = side6 Z2 := fun z => by
          have q := HX.out.1
          rw [z, HX.out.2] at q
          injection q with q
          injection q with _ q
          have := HSS.out.2
          rw [q] at this
          simp at this
         exact ⟨by rw [HT.out.1]; simp [hne], by assumption⟩
        | true =>
         go_wp2_with fail
         go_roundw
         case rel => exact ⟨k + 1, by omega, by first | rfl | go_num, keepH ⟨fun j hj => by
          by_cases z : j = k
          ·subst z
           rw [HX.out.1, HX.out.2]
           have q1 := HSS.out.1
           have q2 := HSS.out.2
           simp at q1 q2
           rw [q1, q2]
          ·exact HK.out.1 j (by omega), by assumption⟩⟩
         case measure => (simp [intOf]; omega))
     ·obtain rfl : k = N1 := by omega
      have t1 : ¬ (k : Int) < (k : Int) := by omega
      go_wp2_with fail
      go_ret
      have he : side6 Z1 = side6 Z2 := by
       apply List.ext_getElem?
       intro j
       by_cases z : j < k
       ·exact HK.out.1 j z
       ·have l1 : (side6 Z1).length = k := by unfold side6; rw [List.length_map]; exact HT.out.2.2.1.symm
        have l2 : (side6 Z2).length = k := by unfold side6; rw [List.length_map]; have := HT.out.2.2.2; have := HN.out; omega
        rw [List.getElem?_eq_none (by omega), List.getElem?_eq_none (by omega)]
      exact ⟨by rw [HT.out.1]; simp [he, HL.out], HK.out.2⟩)
  ·have b1 : ((N1 : Int) != (N2 : Int)) = true := bne_iff_ne.2 (by omega)
   have HN := keepH hN
   clear hN
   go_enter Tryz.func12, Tryz.ntmps12
   go_wp2_with fail
   go_upto_region 3 with fail
   go_region_held3 (fun w' => w'.cell? ⟨m1, 0, none⟩ = some (.int .i64 mu) ∧ w'.cell? ⟨m2, 0, none⟩ = some (.int .i64 mu) ∧ w'.cell? ⟨m1, 1, none⟩ = some (.slice p1 n1 c1) ∧ w'.cell? ⟨m2, 1, none⟩ = some (.slice p2 n2 c2) ∧ w'.cell? ⟨m1, 2, none⟩ = some (.slice q1 N1 d1) ∧ w'.cell? ⟨m2, 2, none⟩ = some (.slice q2 N2 d2)) (first | exact hC _ (by assumption))
    (first | (go_at_call 39; refine (HP.out _ (by assumption)).mono ?_; rintro e z1 ⟨rfl, hz1⟩))
   all_goals (
    go_wp2_with fail
    go_ret
    have hne : ¬ side6 Z1 = side6 Z2 := fun z => HN.out (by
     have := congrArg List.length z
     unfold side6 at this
     rw [List.length_map, List.length_map] at this
     have := HT.out
     omega)
    exact ⟨by rw [HT.out.1]; simp [hne], by assumption⟩)
set_option maxRecDepth 100000 in
theorem clone_anyZ {W : World} {b : Nat} {es : Array MapEntry} {c : Nat} (hb : W.heap[b]? = some (.map es c)) : Calls Tryz.prog 31 #[.map (some b)] W fun e W' => e = .returned (.map (some W.heap.size)) ∧ W' = W.alloc (.map es c) := by
 have hq := fun w => run_eql_map_nil_sl (P := Tryz.prog) w 97 _ _ (some b) Tryz.underlying97
 have hcl : (callFunc 83 #[.iface 97 (.map (some b))]).run Tryz.prog W = .ok (.value (.iface 97 (.map (some W.heap.size)))) (W.alloc (.map es c)) := by
  rw [run_callFunc_extern Tryz.func83 (by kernel_rfl) (by kernel_rfl) (by kernel_rfl) (e := Extern.MapsClone.clone) (by kernel_rfl), run_maps_clone_sl W 97 hb]
  rfl
 have hta := run_typeAssert_map_sl (P := Tryz.prog) (W.alloc (.map es c)) 97 20 _ _ (.map (some W.heap.size)) Tryz.underlying97
 clear hb
 go_enter Tryz.func31, Tryz.ntmps31
 go_wp2_with fail
 go_ret
 exact ⟨by simp, rfl⟩
theorem MapAt.cloneZ {W : World} {b n : Nat} {f : Nat → Option Nat} (h : MapAt W b n f) : Calls Tryz.prog 31 #[.map (some b)] W fun e W' => e = .returned (.map (some W.heap.size)) ∧ MapAt W' W.heap.size n f ∧ Chg (fun _ => False) W W' := by
 obtain ⟨es, c, hb⟩ := MapR.is h
 refine (clone_anyZ hb).mono ?_
 rintro e W' ⟨rfl, rfl⟩
 exact ⟨rfl, MapR.block h hb (heap_alloc_new _ _), (Chg.refl _ _).alloc _⟩
set_option maxRecDepth 100000 in
theorem m_forkZ {W : World} {m nw hd mu : Nat} {f h : Nat → Option Nat} {g : Nat → Nat → Option Nat} {n : Nat} (H : MoAt W m nw hd mu f h g n) :
    Calls Tryz.prog 8 #[.pointer (some ⟨m, 0, none⟩)] W fun e W' => (∃ m' nw' hd', e = .returned (.pointer (some ⟨m', 0, none⟩)) ∧ MoAt W' m' nw' hd' mu f h g n ∧ W.heap.size ≤ m' ∧ W.heap.size ≤ nw' ∧ W.heap.size ≤ hd') ∧ Chg (fun _ => False) W W' := by
 have HN : ∀ w, Chg (fun _ => False) W w → Hid (Calls Tryz.prog 31 #[.map (some nw)] w fun e w' => e = .returned (.map (some w.heap.size)) ∧ MapAt w' w.heap.size n f ∧ Chg (fun _ => False) w w' ∧ Chg (fun _ => False) W w' ∧ w.heap.size < w'.heap.size) := fun w cw => (MapAt.cloneZ (MapR.chg H.now cw (fun x => x))).mono (by
  rintro e w' ⟨rfl, h1, h2⟩
  exact ⟨rfl, h1, h2, cw.trans h2 (fun _ _ x => x) (fun _ _ x => x), MapR.lt h1⟩)
 have HH : ∀ w, Chg (fun _ => False) W w → Hid (Calls Tryz.prog 32 #[.map (some hd)] w fun e w' => e = .returned (.map (some w.heap.size)) ∧ HeldAt w' w.heap.size n h ∧ Chg (fun _ => False) w w' ∧ Chg (fun _ => False) W w' ∧ w.heap.size < w'.heap.size) := fun w cw => (HeldAt.clone (MapR.chg H.held cw (fun x => x))).mono (by
  rintro e w' ⟨rfl, h1, h2⟩
  exact ⟨rfl, h1, h2, cw.trans h2 (fun _ _ x => x) (fun _ _ x => x), MapR.lt h1⟩)
 have hS : ∀ w, Chg (fun _ => False) W w → w.cell? ⟨m, 0, none⟩ = some (.int .i64 mu) ∧ w.cell? ⟨m, 1, none⟩ = some (.map (some nw)) ∧ w.cell? ⟨m, 2, none⟩ = some (.map (some hd)) := fun w cw => ⟨cell_of (H.quiet cw).md 0, cell_of (H.quiet cw).md 1, cell_of (H.quiet cw).md 2⟩
 have C0 : Chg (fun _ => False) W W := Chg.refl _ _
 have Cd : Chg (fun _ => False) W W.drew := C0.drew
 have HM := keepH H
 clear H
 go_enter Tryz.func8, Tryz.ntmps8
 go_upto_region 3 with fail
 go_region_held3 (fun w' => w'.cell? ⟨m, 0, none⟩ = some (.int .i64 mu) ∧ w'.cell? ⟨m, 1, none⟩ = some (.map (some nw)) ∧ w'.cell? ⟨m, 2, none⟩ = some (.map (some hd))) (first | exact hS _ (by assumption) | exact hS _ (Chg.alloc (by assumption) _))
  (first | (go_at_call 31; refine (HN _ (by assumption)).out.mono ?_; rintro e z1 ⟨rfl, hN1, hN2, hN3, hN4⟩) | (go_at_call 32; refine (HH _ (by assumption)).out.mono ?_; rintro e z2 ⟨rfl, hH1, hH2, hH3, hH4⟩))
 all_goals (
  (try go_wp2_with fail)
  go_ret
  have hz : W.drew.heap.size = W.heap.size := rfl
  first
   | exact ⟨⟨_, _, _, rfl, fork_end (z1 := z1) (z2 := z2) HM.out (MapR.chg hN1 hH2 (fun x => x)) hH1 hH3 (by omega) (by omega) (by omega), by omega, by omega, by omega⟩, hH3.alloc _⟩
   | exact ⟨⟨_, _, _, rfl, fork_end (z1 := z1) (z2 := z2) HM.out hN1 (MapR.chg hH1 hN2 (fun x => x)) hN3 (by omega) (by omega) (by omega), by omega, by omega, by omega⟩, hN3.alloc _⟩)
theorem MoAt.low {W : World} {m nw hd mu : Nat} {f h : Nat → Option Nat} {g : Nat → Nat → Option Nat} {n : Nat} (H : MoAt W m nw hd mu f h g n) : Low64 f ∧ ∀ k c, pcs h g k = some c → Low64 c := by
 refine ⟨fun k v e => (H.now64 e).1, fun k c e j v ej => ?_⟩
 unfold pcs at e
 cases hh : h k with
 | none => rw [hh] at e; cases e
 | some b =>
  rw [hh] at e
  injection e with e
  subst e
  obtain ⟨D, _, r⟩ := H.pic k b hh
  exact (r.lt j v ej).1
def toSide (z : Held6) : Side6 := match z.2.1 with
 | .slice p _ c => ⟨z.1, p, c, z.2.2.2⟩
 | _ => ⟨z.1, none, 0, z.2.2.2⟩
theorem toSide_of {z : Held6} {p : Option Addr} {n c : Nat} (h : z.2.1 = .slice p n c) : toSide z = ⟨z.1, p, c, z.2.2.2⟩ := by
 unfold toSide
 rw [h]
theorem RB.sides {A : Nat → Prop} {W : World} {m mu n : Nat} {f : Nat → Option Nat} {pc : Nat → Option (Nat → Option Nat)} (h : RB A W m mu f pc n) (hn : n ≤ 3000000) :
    ∃ (p q : Option Addr) (c d : Nat) (l : List (Nat × Nat)) (Z : List Side6) (H : HeldL), W.heap[m]? = some (.cells #[.int .i64 mu, .slice p l.length c, .slice q Z.length d] 105 (0, 0)) ∧ PairsAt W p l ∧ l.length ≤ n ∧ Lists f 0 18446744073709551615 l ∧ SidesAt W q Z ∧ Z.length ≤ n ∧ side6 Z = sideL H ∧ Rising H ∧ pc = hP H ∧ ∀ z ∈ H, Lists z.2.1 0 18446744073709551615 z.2.2 := by
 obtain ⟨mv, hv, Z, l, h1, h2, h4, h5, hR, hz, rfl, hgl, hlZ⟩ := h.begin
 obtain ⟨p, c, rfl, hp, -⟩ := h2.row.slice
 obtain ⟨q, d, rfl, hq, -, -, -⟩ := h1.row.slice
 refine ⟨p, q, c, d, l, Z.map toSide, Z.map (fun z => (z.1, z.2.2)), ?_, hp, by omega, h2.ls, ?_, by simpa using hlZ, ?_, hR, rfl, fun z hz2 => ?_⟩
 ·have := h1.at_
  simpa using this
 ·rcases hq with e | ⟨bk, off, rfl, hb, hc⟩
  ·have : Z = [] := by simpa using e
   subst this
   exact .inl rfl
  ·refine .inr ⟨bk, off, rfl, hb, fun i s hs => ?_⟩
   rw [List.getElem?_map] at hs
   cases e : Z[i]? with
   | none => rw [e] at hs; cases hs
   | some z =>
    rw [e] at hs
    injection hs with hs
    have hm := List.mem_of_getElem? e
    obtain ⟨a1, a2, a3⟩ := hc i z.1 z.2.1 (by rw [List.getElem?_map, e]; rfl)
    have hr := h4 z hm
    obtain ⟨p2, c2, e2, hp2, -⟩ := hr.row.slice
    rw [toSide_of e2] at hs
    subst hs
    refine ⟨a1, a2, ?_, hp2, ?_⟩
    ·rw [a3, e2]
    ·have := (hz (z.1, z.2.2) (List.mem_map.2 ⟨z, hm, rfl⟩)).2.2
     simp only at this ⊢
     omega
 ·unfold side6 sideL
  rw [List.map_map, List.map_map]
  refine List.map_congr_left (fun z hz2 => ?_)
  have hr := h4 z hz2
  obtain ⟨p2, c2, e2, hp2, -⟩ := hr.row.slice
  show ((toSide z).k, (toSide z).l) = _
  rw [toSide_of e2]
  rfl
 ·obtain ⟨y, hy, rfl⟩ := List.mem_map.1 hz2
  exact (h4 y hy).ls
theorem r_same6 {A1 A2 : Nat → Prop} {W : World} {m1 m2 mu n n2 : Nat} {f1 f2 : Nat → Option Nat} {pc1 pc2 : Nat → Option (Nat → Option Nat)} (h1 : RB A1 W m1 mu f1 pc1 n) (h2 : RB A2 W m2 mu f2 pc2 n2) (hn : n ≤ 3000000) (hn2 : n2 ≤ 3000000) (b1 : Low64 f1) (b2 : Low64 f2) (q1 : ∀ k c, pc1 k = some c → Low64 c) (q2 : ∀ k c, pc2 k = some c → Low64 c) {S : Bool} (hS : S = true ↔ f1 = f2 ∧ pc1 = pc2) :
    Calls Tryz.prog 12 #[.pointer (some ⟨m1, 0, none⟩), .pointer (some ⟨m2, 0, none⟩)] W fun e W' => e = .returned (.bool S) ∧ Chg (fun _ => False) W W' := by
 obtain ⟨p, q, c, d, l, Z, H, a1, a2, a3, a4, a5, a6, a7, a8, rfl, a9⟩ := h1.sides hn
 obtain ⟨p', q', c', d', l', Z', H', e1, e2, e3, e4, e5, e6, e7, e8, rfl, e9⟩ := h2.sides hn2
 refine (same6_walk a1 e1 a2 e2 (by omega) (by omega) a5 e5 (by omega)).mono ?_
 rintro e W' ⟨rfl, hc⟩
 refine ⟨?_, hc⟩
 congr 2
 rw [Bool.eq_iff_iff, decide_eq_true_iff, hS, a7, e7]
 rw [lists_iff a4 e4 b1 b2, held_iff a8 e8 a9 e9 (fun z hz => q1 z.1 z.2.1 (hP_some a8 hz)) (fun z hz => q2 z.1 z.2.1 (hP_some e8 hz))]
theorem Pair9.same {W : World} {b1 m1 nw1 hd1 r1 b2 m2 nw2 hd2 r2 mu n k : Nat} (H : Pair9 W b1 m1 nw1 hd1 r1 b2 m2 nw2 hd2 r2 mu n k) (hn : n ≤ 3000000) (hk : k ≤ 3000000) : ∃ S : Bool,
    (∀ w, Chg (fun _ => False) W w → Calls Tryz.prog 10 #[.pointer (some ⟨m1, 0, none⟩), .pointer (some ⟨m2, 0, none⟩)] w fun e w' => e = .returned (.bool S) ∧ Chg (fun _ => False) W w') ∧
    (∀ w, Chg (fun _ => False) W w → Calls Tryz.prog 10 #[.pointer (some ⟨m2, 0, none⟩), .pointer (some ⟨m1, 0, none⟩)] w fun e w' => e = .returned (.bool S) ∧ Chg (fun _ => False) W w') ∧
    ∀ w, Chg (fun _ => False) W w → Calls Tryz.prog 12 #[.pointer (some ⟨r1, 0, none⟩), .pointer (some ⟨r2, 0, none⟩)] w fun e w' => e = .returned (.bool S) ∧ Chg (fun _ => False) W w' := by
 classical
 obtain ⟨⟨hb1, f1, h1, g1, M1, R1, -⟩, ⟨hb2, f2, h2, g2, M2, R2, -⟩, -⟩ := H
 obtain ⟨S, hS⟩ : ∃ S : Bool, S = true ↔ f1 = f2 ∧ pcs h1 g1 = pcs h2 g2 := ⟨decide (f1 = f2 ∧ pcs h1 g1 = pcs h2 g2), decide_eq_true_iff⟩
 have tr : ∀ {w w' : World}, Chg (fun _ => False) W w → Chg (fun _ => False) w w' → Chg (fun _ => False) W w' := fun c d => c.trans d (fun _ _ x => x) (fun _ _ x => x)
 refine ⟨S, fun w c => ?_, fun w c => ?_, fun w c => ?_⟩
 ·exact (m_same_ex (M1.quiet c) (M2.quiet c) hS).mono (fun e w' hh => ⟨hh.1, tr c hh.2⟩)
 ·exact (m_same_ex (M2.quiet c) (M1.quiet c) (hS.trans ⟨fun x => ⟨x.1.symm, x.2.symm⟩, fun x => ⟨x.1.symm, x.2.symm⟩⟩)).mono (fun e w' hh => ⟨hh.1, tr c hh.2⟩)
 ·exact (r_same6 (R1.quiet c) (R2.quiet c) hn hk M1.low.1 M2.low.1 M1.low.2 M2.low.2 hS).mono (fun e w' hh => ⟨hh.1, tr c hh.2⟩)
def Fk1 (W0 W : World) (b m nw hd r mu n m' nw' hd' : Nat) : Prop := BothAt W b m r ∧ (∀ i, FTwo nw hd r i → i < W0.heap.size) ∧ (W0.heap.size ≤ nw' ∧ W0.heap.size ≤ hd') ∧ W0.heap.size ≤ W.heap.size ∧ ∃ f h g, MoAt W m nw hd mu f h g n ∧ RB (fun _ => False) W r mu f (pcs h g) n ∧ MoAt W m' nw' hd' mu f h g n ∧ ∀ k b, h k = some b → b < W0.heap.size
def Fk2 (W0 W : World) (b m nw hd r mu n m' nw' hd' r' : Nat) : Prop := BothAt W b m r ∧ (∀ i, FTwo nw hd r i → i < W0.heap.size) ∧ (W0.heap.size ≤ nw' ∧ W0.heap.size ≤ hd' ∧ W0.heap.size ≤ r') ∧ ∃ f h g, MoAt W m nw hd mu f h g n ∧ RB (fun _ => False) W r mu f (pcs h g) n ∧ MoAt W m' nw' hd' mu f h g n ∧ RB (fun _ => False) W r' mu f (pcs h g) n ∧ ∀ k b, h k = some b → b < W0.heap.size
theorem fork_m {W : World} {b m nw hd r mu n : Nat} (H : TwoAt W b m nw hd r mu n) :
    Calls Tryz.prog 8 #[.pointer (some ⟨m, 0, none⟩)] W fun e W' => (∃ m' nw' hd', e = .returned (.pointer (some ⟨m', 0, none⟩)) ∧ Fk1 W W' b m nw hd r mu n m' nw' hd') ∧ Chg (fun _ => False) W W' := by
 have hlt := H.off.lt
 obtain ⟨hb, f, h, g, hM, hR⟩ := H
 refine (m_forkZ hM).mono ?_
 rintro e W' ⟨⟨m', nw', hd', rfl, hM', h1, h2, h3⟩, hc⟩
 exact ⟨⟨m', nw', hd', rfl, (hc.block b (lt_of hb) (fun x => x)).trans hb, hlt, ⟨h2, h3⟩, hc.size, f, h, g, hM.quiet hc, hR.quiet hc, hM', hM.blk.2.2.2⟩, hc⟩
theorem fork_r {W0 W : World} {b m nw hd r mu n m' nw' hd' : Nat} (H : Fk1 W0 W b m nw hd r mu n m' nw' hd') (hn : n ≤ 3000000) :
    Calls Tryz.prog 9 #[.pointer (some ⟨r, 0, none⟩)] W fun e W' => (∃ r', e = .returned (.pointer (some ⟨r', 0, none⟩)) ∧ Fk2 W0 W' b m nw hd r mu n m' nw' hd' r') ∧ Chg (fun _ => False) W W' := by
 obtain ⟨hb, hlt, ⟨h2, h3⟩, hs, f, h, g, hM, hR, hM', hp⟩ := H
 refine (r_fork hR hn (fun b hb => hb.elim)).mono ?_
 rintro e W' ⟨rfl, hR', hc⟩
 exact ⟨⟨_, rfl, (hc.block b (lt_of hb) (fun x => x)).trans hb, hlt, ⟨h2, h3, hs⟩, f, h, g, hM.quiet hc, hR.quiet hc, hM'.quiet hc, hR', hp⟩, hc⟩
theorem Fk2.pair {W0 W : World} {b m nw hd r mu n m' nw' hd' r' : Nat} (H : Fk2 W0 W b m nw hd r mu n m' nw' hd' r') :
    Pair9 (W.alloc (.cells #[.pointer (some ⟨m', 0, none⟩), .pointer (some ⟨r', 0, none⟩)] 45)) b m nw hd r W.heap.size m' nw' hd' r' mu n n ∧ ∀ w, Chg (fun _ => False) (W.alloc (.cells #[.pointer (some ⟨m', 0, none⟩), .pointer (some ⟨r', 0, none⟩)] 45)) w → Calls Tryz.prog 10 #[.pointer (some ⟨m, 0, none⟩), .pointer (some ⟨m', 0, none⟩)] w fun e w' => e = .returned (.bool true) ∧ Chg (fun _ => False) w w' := by
 obtain ⟨hb, hlt, ⟨h2, h3, h4⟩, f, h, g, hM, hR, hM', hR', hp⟩ := H
 have c : Chg (fun _ => False) W (W.alloc (.cells #[.pointer (some ⟨m', 0, none⟩), .pointer (some ⟨r', 0, none⟩)] 45)) := (Chg.refl _ _).alloc _
 obtain ⟨pm, ph, nm, cm, nh, ch, hr⟩ := hR.cells
 refine ⟨⟨⟨(c.block b (lt_of hb) (fun x => x)).trans hb, f, h, g, hM.quiet c, hR.quiet c, fun k x hk y => ?_⟩, ⟨heap_alloc_new _ _, f, h, g, hM'.quiet c, hR'.quiet c, fun k x hk y => ?_⟩, fun i x y => ?_⟩, fun w cw => m_same_ex (S := true) ((hM.quiet c).quiet cw) ((hM'.quiet c).quiet cw) (by simp)⟩
 ·have := hp k x hk
  rcases y with y | y | y <;> omega
 ·have q := hM.ap k x hk
  rcases y with y | y | y
  ·exact q.1 y
  ·exact q.2.1 y
  ·rw [y] at hk
   exact map_not (hM.pic k r hk) hr
 ·have := hlt i x
  rcases y with y | y | y <;> omega
end Go.Proofs.YtahgaghokpicgaaGreat
