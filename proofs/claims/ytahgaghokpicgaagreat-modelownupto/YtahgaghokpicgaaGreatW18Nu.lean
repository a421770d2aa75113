/- Two answers held against each other, however long their lists. -/
import Derived.Test.YtahgaghokpicgaaGreatW1MsL
namespace Go.Proofs.YtahgaghokpicgaaGreat
open Go.RowKit
set_option linter.unusedVariables false
set_option maxHeartbeats 16000000
set_option maxRecDepth 100000 in
theorem m_equalL (pa pb : Option Addr) (ca cb : Nat) (la lb : List (Nat × Nat)) (W : World) (hA : PairsAt W pa la) (hB : PairsAt W pb lb) (hla : la.length ≤ 9223372036854775807) (hlb : lb.length ≤ 9223372036854775807) :
    Calls Tryz.prog 85 #[.slice pa la.length ca, .slice pb lb.length cb] W fun e W' => e = .returned (.bool (decide (la = lb))) ∧ Chg (fun _ => False) W W' := by
 have HA := keepH hA
 have HB := keepH hB
 clear hA hB
 by_cases hl : la.length = lb.length
 ·have d1 : decide (la.length = lb.length) = true := decide_eq_true hl
  have b1 : ((la.length : Int) != (lb.length : Int)) = false := by rw [hl]; simp
  go_enter Tryz.func85, Tryz.ntmps85
  go_wp2_with fail
  go_loopw [13] (fun s wr => ∃ k : Nat, k ≤ la.length ∧ s = .int .i64 k ∧ Hid ((∀ j, j < k → la[j]? = lb[j]?) ∧ Chg (fun _ => False) W wr)) (fun s _ => la.length - (intOf s).toNat)
  case atStart => exact ⟨0, by omega, rfl, keepH ⟨fun j h => absurd h (by omega), Chg.refl _ _⟩⟩
  case round =>
   obtain ⟨k, hk, rfl, HK⟩ := hrel
   by_cases hlt : k < la.length
   ·have t1 : (k : Int) < (la.length : Int) := by omega
    have t2 : (k : Int) < (lb.length : Int) := by omega
    obtain ⟨⟨a, b⟩, hx⟩ : ∃ x, la[k]? = some x := ⟨la[k], List.getElem?_eq_getElem hlt⟩
    obtain ⟨⟨c, d⟩, hy⟩ : ∃ x, lb[k]? = some x := ⟨lb[k], List.getElem?_eq_getElem (by omega)⟩
    obtain ⟨bk, off, rfl, ba, bb, c0, c1⟩ := HA.out.get HK.out.2 k a b hx
    obtain ⟨bk', off', rfl, bc, bd, d0, d1'⟩ := HB.out.get HK.out.2 k c d hy
    have hpn := pair_neq a b c d ba bb bc bd
    have HX : Hid (la[k]? = some (a, b) ∧ lb[k]? = some (c, d)) := ⟨hx, hy⟩
    clear hx hy
    by_cases e : (a, b) = (c, d)
    ·have dd : decide ((a, b) = (c, d)) = true := decide_eq_true e
     rw [dd] at hpn
     have HE := keepH e
     clear dd e
     go_wp2_with fail
     go_quiet (fail)
     go_wp2_with fail
     go_roundw
     case rel => exact ⟨k + 1, by omega, by first | rfl | go_num, keepH ⟨fun j hj => by
      by_cases z : j = k
      ·subst z; rw [HX.out.1, HX.out.2, HE.out]
      ·exact HK.out.1 j (by omega), HK.out.2.trans (H := fun _ => False) ⟨rfl, rfl, rfl, Nat.le_refl _, fun _ _ _ => rfl⟩ (fun _ _ x => x) (fun _ _ x => x)⟩⟩
     case measure => simp [intOf]; omega
    ·have dd : decide ((a, b) = (c, d)) = false := decide_eq_false e
     rw [dd] at hpn
     have HE := keepH e
     clear dd e
     go_wp2_with fail
     go_quiet (fail)
     go_wp2_with fail
     go_ret
     have hne : ¬ la = lb := fun z => HE.out (by have q1 := HX.out.1; rw [z, HX.out.2] at q1; simpa using q1.symm)
     exact ⟨by simp [hne], HK.out.2.trans (H := fun _ => False) ⟨rfl, rfl, rfl, Nat.le_refl _, fun _ _ _ => rfl⟩ (fun _ _ x => x) (fun _ _ x => x)⟩
   ·obtain rfl : k = la.length := by omega
    have t1 : ¬ (la.length : Int) < (la.length : Int) := by omega
    go_wp2_with fail
    go_ret
    have he : la = lb := by
     apply List.ext_getElem?
     intro j
     by_cases z : j < la.length
     ·exact HK.out.1 j z
     ·rw [List.getElem?_eq_none (by omega), List.getElem?_eq_none (by omega)]
    exact ⟨by simp [he], HK.out.2⟩
 ·have d1 : decide (la.length = lb.length) = false := decide_eq_false hl
  have b1 : ((la.length : Int) != (lb.length : Int)) = true := bne_iff_ne.2 (by omega)
  have hne : ¬ la = lb := fun z => hl (by rw [z])
  have HNE := keepH hne
  clear hne
  go_enter Tryz.func85, Tryz.ntmps85
  go_wp2_with fail
  go_ret
  exact ⟨by simp [HNE.out], Chg.refl _ _⟩
set_option maxRecDepth 100000 in
theorem m_sameL (e1 e2 : Int) (f1 f2 d1 d2 : Bool) (x1 x2 h1 h2 n1 n2 : Nat) (p1 p2 : Option Addr) (c1 c2 : Nat) (l1 l2 : List (Nat × Nat)) (W : World) (hA : PairsAt W p1 l1) (hB : PairsAt W p2 l2) (hla : l1.length ≤ 9223372036854775807) (hlb : l2.length ≤ 9223372036854775807) :
    Calls Tryz.prog 42 #[.agg #[.int .i64 e1, .bool f1, .int .u64 x1, .bool d1, .int .u64 h1, .slice p1 l1.length c1, .int .u64 n1], .agg #[.int .i64 e2, .bool f2, .int .u64 x2, .bool d2, .int .u64 h2, .slice p2 l2.length c2, .int .u64 n2]] W fun e W' => e = .returned (.bool (decide ((⟨e1, f1, x1, d1, h1, l1, n1⟩ : Ans) = ⟨e2, f2, x2, d2, h2, l2, n2⟩))) ∧ Chg (fun _ => False) W W' := by
 obtain ⟨w0, hw0⟩ : ∃ w0, w0 = (W.alloc (.cells #[.int .i64 e1, .bool f1, .int .u64 x1, .bool d1, .int .u64 h1, .slice p1 l1.length c1, .int .u64 n1] 39)).alloc (.cells #[.int .i64 e2, .bool f2, .int .u64 x2, .bool d2, .int .u64 h2, .slice p2 l2.length c2, .int .u64 n2] 39) := ⟨_, rfl⟩
 have C0 : Chg (fun _ => False) W w0 := by rw [hw0]; exact ((Chg.refl _ _).alloc _).alloc _
 have b1 : w0.heap[W.heap.size]? = some (.cells #[.int .i64 e1, .bool f1, .int .u64 x1, .bool d1, .int .u64 h1, .slice p1 l1.length c1, .int .u64 n1] 39 (0, 0)) := by rw [hw0]; exact alloc_of (heap_alloc_new _ _) _
 have b2 : w0.heap[W.heap.size + 1]? = some (.cells #[.int .i64 e2, .bool f2, .int .u64 x2, .bool d2, .int .u64 h2, .slice p2 l2.length c2, .int .u64 n2] 39 (0, 0)) := by
  rw [hw0]
  exact al2
 have r0 : w0.cell? ⟨W.heap.size, 0, none⟩ = some (.int .i64 e1) := cell_of b1 0
 have s0 : w0.cell? ⟨W.heap.size + 1, 0, none⟩ = some (.int .i64 e2) := cell_of b2 0
 have r1 : w0.cell? ⟨W.heap.size, 1, none⟩ = some (.bool f1) := cell_of b1 1
 have s1 : w0.cell? ⟨W.heap.size + 1, 1, none⟩ = some (.bool f2) := cell_of b2 1
 have r2 : w0.cell? ⟨W.heap.size, 2, none⟩ = some (.int .u64 x1) := cell_of b1 2
 have s2 : w0.cell? ⟨W.heap.size + 1, 2, none⟩ = some (.int .u64 x2) := cell_of b2 2
 have r3 : w0.cell? ⟨W.heap.size, 3, none⟩ = some (.bool d1) := cell_of b1 3
 have s3 : w0.cell? ⟨W.heap.size + 1, 3, none⟩ = some (.bool d2) := cell_of b2 3
 have r4 : w0.cell? ⟨W.heap.size, 4, none⟩ = some (.int .u64 h1) := cell_of b1 4
 have s4 : w0.cell? ⟨W.heap.size + 1, 4, none⟩ = some (.int .u64 h2) := cell_of b2 4
 have r5 : w0.cell? ⟨W.heap.size, 5, none⟩ = some (.slice p1 l1.length c1) := cell_of b1 5
 have s5 : w0.cell? ⟨W.heap.size + 1, 5, none⟩ = some (.slice p2 l2.length c2) := cell_of b2 5
 have r6 : w0.cell? ⟨W.heap.size, 6, none⟩ = some (.int .u64 n1) := cell_of b1 6
 have s6 : w0.cell? ⟨W.heap.size + 1, 6, none⟩ = some (.int .u64 n2) := cell_of b2 6
 have HP := keepH (m_equalL p1 p2 c1 c2 l1 l2 w0 (hA.chg C0) (hB.chg C0) hla hlb)
 have HC := keepH C0
 clear C0 b1 b2 hA hB
 go_enter Tryz.func42, Tryz.ntmps42
 go_upto_region 1 with fail
 rw [← hw0]
 clear hw0
 by_cases ze : e1 = e2
 ·have qe : (e1 == e2) = true := by rw [ze]; simp
  have te : decide (e1 = e2) = true := decide_eq_true ze
  by_cases zf : f1 = f2
  ·have qf : (f1 == f2) = true := by rw [zf]; simp
   have tf : decide (f1 = f2) = true := decide_eq_true zf
   by_cases zx : x1 = x2
   ·have qx : ((x1 : Int) == (x2 : Int)) = true := by rw [zx]; simp
    have tx : decide (x1 = x2) = true := decide_eq_true zx
    by_cases zd : d1 = d2
    ·have qd : (d1 == d2) = true := by rw [zd]; simp
     have td : decide (d1 = d2) = true := decide_eq_true zd
     by_cases zh : h1 = h2
     ·have qh : ((h1 : Int) == (h2 : Int)) = true := by rw [zh]; simp
      have th : decide (h1 = h2) = true := decide_eq_true zh
      by_cases zn : n1 = n2
      ·have qn : ((n1 : Int) == (n2 : Int)) = true := by rw [zn]; simp
       have tn : decide (n1 = n2) = true := decide_eq_true zn
       by_cases zl : l1 = l2
       ·have tl : decide (l1 = l2) = true := decide_eq_true zl
        have HZ := keepH (decide_eq_true (show (⟨e1, f1, x1, d1, h1, l1, n1⟩ : Ans) = ⟨e2, f2, x2, d2, h2, l2, n2⟩ by subst ze zf zx zd zh zn zl; rfl))
        clear ze zf zx zd zh zn zl
        go_wp2_with fail
        refine HP.out.mono ?_
        rintro e w1 ⟨rfl, C1⟩
        have HC1 : Hid (Chg (fun _ => False) W w1) := HC.out.trans C1 (fun _ _ x => x) (fun _ _ x => x)
        have r6b := cell_chg C1 r6 (fun x => x)
        have s6b := cell_chg C1 s6 (fun x => x)
        clear C1
        try rw [tl]
        go_wp2_with fail
        go_ret
        exact ⟨by rw [HZ.out]; first | rfl | simp, HC1.out⟩
       ·have tl : decide (l1 = l2) = false := decide_eq_false zl
        have HZ := keepH (decide_eq_false (show ¬ (⟨e1, f1, x1, d1, h1, l1, n1⟩ : Ans) = ⟨e2, f2, x2, d2, h2, l2, n2⟩ by intro q; exact zl (by injection q)))
        clear ze zf zx zd zh zn zl
        go_wp2_with fail
        refine HP.out.mono ?_
        rintro e w1 ⟨rfl, C1⟩
        have HC1 : Hid (Chg (fun _ => False) W w1) := HC.out.trans C1 (fun _ _ x => x) (fun _ _ x => x)
        have r6b := cell_chg C1 r6 (fun x => x)
        have s6b := cell_chg C1 s6 (fun x => x)
        clear C1
        try rw [tl]
        go_wp2_with fail
        go_ret
        exact ⟨by rw [HZ.out]; first | rfl | simp, HC1.out⟩
      ·have qn : ((n1 : Int) == (n2 : Int)) = false := beq_eq_false_iff_ne.2 (by omega)
       have tn : decide (n1 = n2) = false := decide_eq_false zn
       have HZ := keepH (decide_eq_false (show ¬ (⟨e1, f1, x1, d1, h1, l1, n1⟩ : Ans) = ⟨e2, f2, x2, d2, h2, l2, n2⟩ by intro q; exact zn (by injection q)))
       clear ze zf zx zd zh zn
       go_wp2_with fail
       go_ret
       exact ⟨by rw [HZ.out]; first | rfl | simp, HC.out⟩
     ·have qh : ((h1 : Int) == (h2 : Int)) = false := beq_eq_false_iff_ne.2 (by omega)
      have th : decide (h1 = h2) = false := decide_eq_false zh
      have HZ := keepH (decide_eq_false (show ¬ (⟨e1, f1, x1, d1, h1, l1, n1⟩ : Ans) = ⟨e2, f2, x2, d2, h2, l2, n2⟩ by intro q; exact zh (by injection q)))
      clear ze zf zx zd zh
      go_wp2_with fail
      go_ret
      exact ⟨by rw [HZ.out]; first | rfl | simp, HC.out⟩
    ·have qd : (d1 == d2) = false := beq_eq_false_iff_ne.2 zd
     have td : decide (d1 = d2) = false := decide_eq_false zd
     have HZ := keepH (decide_eq_false (show ¬ (⟨e1, f1, x1, d1, h1, l1, n1⟩ : Ans) = ⟨e2, f2, x2, d2, h2, l2, n2⟩ by intro q; exact zd (by injection q)))
     clear ze zf zx zd
     go_wp2_with fail
     go_ret
     exact ⟨by rw [HZ.out]; first | rfl | simp, HC.out⟩
   ·have qx : ((x1 : Int) == (x2 : Int)) = false := beq_eq_false_iff_ne.2 (by omega)
    have tx : decide (x1 = x2) = false := decide_eq_false zx
    have HZ := keepH (decide_eq_false (show ¬ (⟨e1, f1, x1, d1, h1, l1, n1⟩ : Ans) = ⟨e2, f2, x2, d2, h2, l2, n2⟩ by intro q; exact zx (by injection q)))
    clear ze zf zx
    go_wp2_with fail
    go_ret
    exact ⟨by rw [HZ.out]; first | rfl | simp, HC.out⟩
  ·have qf : (f1 == f2) = false := beq_eq_false_iff_ne.2 zf
   have tf : decide (f1 = f2) = false := decide_eq_false zf
   have HZ := keepH (decide_eq_false (show ¬ (⟨e1, f1, x1, d1, h1, l1, n1⟩ : Ans) = ⟨e2, f2, x2, d2, h2, l2, n2⟩ by intro q; exact zf (by injection q)))
   clear ze zf
   go_wp2_with fail
   go_ret
   exact ⟨by rw [HZ.out]; first | rfl | simp, HC.out⟩
 ·have qe : (e1 == e2) = false := beq_eq_false_iff_ne.2 ze
  have te : decide (e1 = e2) = false := decide_eq_false ze
  have HZ := keepH (decide_eq_false (show ¬ (⟨e1, f1, x1, d1, h1, l1, n1⟩ : Ans) = ⟨e2, f2, x2, d2, h2, l2, n2⟩ by intro q; exact ze (by injection q)))
  clear ze
  go_wp2_with fail
  go_ret
  exact ⟨by rw [HZ.out]; first | rfl | simp, HC.out⟩
end Go.Proofs.YtahgaghokpicgaaGreat
