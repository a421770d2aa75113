/- LockedModel, walked. -/
import Derived.Test.YtgaincicbgojjaaKI
import Derived.Deep.CutBlock
namespace Go.Proofs.Ytgaincicbgojjaa
open Go.RowKit Go.Maps
set_option linter.unusedVariables false
set_option linter.unusedSimpArgs false

set_option maxRecDepth 100000 in
set_option maxHeartbeats 4000000 in
theorem model_bad (a b c d : Int) (h : takesP a b c = false ∨ d < 1 ∨ 1024 < d) (v : Value) (W : World) : Calls Try.prog 4 #[.agg #[.int .i64 a, .int .i64 b, .int .u64 c, .int .i64 d], v] W fun e W' => e = .returned (.bool true) ∧ Chg (fun _ => False) W W' := by
  obtain ⟨w0, hw0⟩ : ∃ w0, w0 = W.alloc (.cells #[.int .i64 a, .int .i64 b, .int .u64 c, .int .i64 d] 40) := ⟨_, rfl⟩
  have C0 : Chg (fun _ => False) W w0 := by rw [hw0]; exact (Chg.refl _ _).alloc _
  have o0 : w0.heap[W.heap.size]? = some (.cells #[.int .i64 a, .int .i64 b, .int .u64 c, .int .i64 d] 40 (0, 0)) := by rw [hw0]; exact heap_alloc_new _ _
  have c0 := cell_of o0 0
  have c1 := cell_of o0 1
  have c2 := cell_of o0 2
  have c3 := cell_of o0 3
  have HO := keepH o0
  have HC := keepH C0
  have HN := keepH (k_new_no a b c d h w0)
  have HH := keepH h
  clear o0 C0 h
  go_enter Try.func4, Try.ntmps4
  go_upto_region 1 with fail
  rw [← hw0]
  clear hw0
  go_wp2_with fail
  refine HN.out.mono ?_
  rintro e w1 ⟨rfl, C1⟩
  have HO1 := keepH ((C1.block _ (lt_of HO.out) (fun x => x)).trans HO.out)
  have HC1 := keepH (HC.out.trans C1 (H := fun _ => False) (fun _ _ x => x) (fun _ _ x => x))
  clear C1 c0 c1 c2 c3
  have c0 := cell_of HO1.out 0
  have c1 := cell_of HO1.out 1
  have c2 := cell_of HO1.out 2
  have c3 := cell_of HO1.out 3
  go_wp2_with fail
  refine (r25_no a b c d HH.out w1).mono ?_
  rintro e w2 ⟨rfl, C2⟩
  have HC2 := keepH (HC1.out.trans C2 (H := fun _ => False) (fun _ _ x => x) (fun _ _ x => x))
  clear C2 c0 c1 c2 c3
  go_wp2_with fail
  refine (live_25 w2).mono ?_
  rintro e w3 ⟨rfl, C3⟩
  have HC3 := keepH (HC2.out.trans C3 (H := fun _ => False) (fun _ _ x => x) (fun _ _ x => x))
  clear C3
  go_wp2_with fail
  (try simp only [Exit.inBlock, Exit.then])
  go_ret
  exact ⟨by simp, HC3.out⟩
set_option maxRecDepth 100000 in
set_option maxHeartbeats 16000000 in
theorem model_walk (a : Int) (N st mu : Nat) (ht : takesP a (N : Int) (st : Int) = true) (m1 : 1 ≤ mu) (m2 : mu ≤ 1024) {Lp : Option Addr} {Lc : Nat} {l : List OpI} {W : World} (hO : OpsAt W Lp l) (hl : l.length ≤ 8796093021000) : Calls Try.prog 4 #[.agg #[.int .i64 a, .int .i64 (N : Int), .int .u64 (st : Int), .int .i64 (mu : Int)], .slice Lp l.length Lc] W fun e W' => e = .returned (.bool true) ∧ Chg (fun _ => False) W W' := by
  have hN : N ≤ 256 ∧ 1 ≤ st ∧ st ≤ 1099511627776 := by
    unfold takesP at ht
    simp at ht
    omega
  obtain ⟨w0, hw0⟩ : ∃ w0, w0 = W.alloc (.cells #[.int .i64 a, .int .i64 (N : Int), .int .u64 (st : Int), .int .i64 (mu : Int)] 40) := ⟨_, rfl⟩
  have C0 : Chg (fun _ => False) W w0 := by rw [hw0]; exact (Chg.refl _ _).alloc _
  have o0 : w0.heap[W.heap.size]? = some (.cells #[.int .i64 a, .int .i64 (N : Int), .int .u64 (st : Int), .int .i64 (mu : Int)] 40 (0, 0)) := by rw [hw0]; exact heap_alloc_new _ _
  have HZ0 : Hid (w0.heap.size = W.heap.size + 1) := by rw [hw0]; show _ = _; simp
  have c0 := cell_of o0 0
  have c1 := cell_of o0 1
  have c2 := cell_of o0 2
  have c3 := cell_of o0 3
  have HO0 := keepH o0
  have HC0 := keepH C0
  have HNew := keepH (k_new a N st mu ht m1 m2 w0)
  have HB : Hid (N ≤ 256 ∧ 1 ≤ st ∧ st ≤ 1099511627776 ∧ 1 ≤ mu ∧ mu ≤ 1024) := ⟨hN.1, hN.2.1, hN.2.2, m1, m2⟩
  have HOp := keepH hO
  have HL := keepH hl
  clear o0 C0 ht m1 m2 hN hO
  go_enter Try.func4, Try.ntmps4
  go_upto_region 1 with fail
  rw [← hw0]
  clear hw0
  go_wp2_with fail
  refine HNew.out.mono ?_
  rintro e w1 ⟨s, sb, m, nw, hd, rfl, S1, M1, F1, C1⟩
  have HO1 := keepH ((C1.block _ (lt_of HO0.out) (fun x => x)).trans HO0.out)
  have HC1 := keepH (HC0.out.trans C1 (H := fun _ => False) (fun _ _ x => x) (fun _ _ x => x))
  have HS1 := keepH S1
  have HM1 := keepH M1
  have HF1 := keepH F1
  clear C1 c0 c1 c2 c3 S1 M1 F1 HNew
  have c3 : w1.cell? ⟨W.heap.size, 3, none⟩ = some (.int .i64 (mu : Int)) := cell_of HO1.out 3
  go_wp2_with fail
  refine (new_gg mu HB.out.2.2.2.1 HB.out.2.2.2.2 w1).mono ?_
  rintro e w2 ⟨rfl, M2, C2⟩
  obtain ⟨kb, hkb⟩ : ∃ kb : Blks, kb = ⟨s, sb, m, nw, hd, w1.heap.size + 2, w1.heap.size, w1.heap.size + 1, .cells #[.int .i64 a, .int .i64 (N : Int), .int .u64 (st : Int), .int .i64 (mu : Int)] 40 (0, 0)⟩ := ⟨_, rfl⟩
  obtain ⟨Z, hZ⟩ : ∃ Z, Z = w2.heap.size := ⟨_, rfl⟩
  have HT0 : Hid (Two W w2 kb mu N Z 0 0 (fun _ => none) (fun _ => none) (fun _ _ => none) (fun _ => none) (fun _ => none) (fun _ _ => none)) := by
    have fr := HF1.out
    have z0 := HZ0.out
    have bl := HM1.out.blk
    have l1 := lt_of HS1.out.st
    have l2 := lt_of HS1.out.row
    have bl2 := M2.blk
    have z2 := C2.size
    subst hkb
    refine ⟨⟨0, st - 1, List.replicate N (false, 0), HS1.out.chg C2 (fun x => x) (fun x => x), SlInv.start N (st - 1) HB.out.1 (by have := HB.out; omega), by simp⟩, HM1.out.quiet C2, M2, (fun x b hb => by cases hb), (fun x b hb => by cases hb), ⟨?_, ?_, ?_⟩, Nat.le_of_eq hZ, HC1.out.trans C2 (fun _ _ x => x) (fun _ _ x => x), (C2.block _ (lt_of HO1.out) (fun x => x)).trans HO1.out⟩
    · have q1 := fr.s; have q2 := fr.sb; have q3 := fr.m; have q4 := fr.nw; have q5 := fr.hd; have q6 := HC1.out.size
      have q7 := lt_of HO1.out
      refine ⟨?_, ?_, ?_, ?_, ?_, ?_, ?_, ?_⟩ <;> simp only <;> omega
    · have q1 := bl.1; have q2 := bl.2.1; have q3 := bl.2.2.1; have q4 := bl2.1; have q5 := bl2.2.1; have q6 := bl2.2.2.1
      refine ⟨?_, ?_, ?_, ?_, ?_, ?_, ?_, ?_⟩ <;> simp only <;> omega
    · have q2 := bl.2.1; have q3 := bl.2.2.1
      refine ⟨?_, ?_, ?_, ?_⟩ <;> simp only <;> omega
  have es : s = kb.s := by rw [hkb]
  have em : w1.heap.size + 2 = kb.m' := by rw [hkb]
  have HCfg : Hid (kb.C = .cells #[.int .i64 a, .int .i64 (N : Int), .int .u64 (st : Int), .int .i64 (mu : Int)] 40 (0, 0)) := by rw [hkb]; rfl
  have HOKB := keepH HT0.out.ok
  rw [em]
  rw [es]
  clear M2 C2 c3 hkb hZ es em HS1 HM1 HF1 HC1 HO1
  go_wp2_with fail
  go_loopw [10] (fun s wr => ∃ i : Nat, i ≤ l.length ∧ s = .int .i64 (i : Int) ∧ Hid (∃ f h g h' g', Two W wr kb mu N Z i i f h g f h' g' ∧ pcs h' g' = pcs h g)) (fun s _ => l.length - natOf s)
  case atStart => exact ⟨0, Nat.zero_le _, rfl, _, _, _, _, _, HT0.out, rfl⟩
  case round =>
    obtain ⟨i, hi, rfl, HK⟩ := hrel
    by_cases c1 : i < l.length
    · obtain ⟨y, hy⟩ : ∃ y, l[i]? = some y := ⟨_, List.getElem?_eq_getElem c1⟩
      obtain ⟨f, h, g, h', g', T, hpc⟩ := HK.out
      obtain ⟨bk, off, hLp, hyo, hyc⟩ := HOp.out.get T.ch hy
      have HOC : Hid (∀ w, Chg (fun _ => False) W w → ∀ j v, y.cs[j]? = some v → w.cell? ⟨bk, off + i * 11 + j, none⟩ = some v) := by
        intro w cw j v hv
        obtain ⟨bk', off', e, _, hc⟩ := HOp.out.get cw hy
        rw [hLp] at e
        injection e with e
        injection e with e1 e2
        subst e1
        subst e2
        exact hc j v hv
      subst hLp
      have y0 : wr.cell? ⟨bk, off + i * 11, none⟩ = some (.int .u8 y.o.kd) := hyc 0 _ rfl
      have y1 : wr.cell? ⟨bk, off + i * 11 + 1, none⟩ = some (.int .u64 (y.o.k : Int)) := hyc 1 _ rfl
      have y2 : wr.cell? ⟨bk, off + i * 11 + 2, none⟩ = some (.int .u64 (y.o.v : Int)) := hyc 2 _ rfl
      have y3 : wr.cell? ⟨bk, off + i * 11 + 3, none⟩ = some (.int .u64 (y.o.od : Int)) := hyc 3 _ rfl
      have y4 : wr.cell? ⟨bk, off + i * 11 + 4, none⟩ = some (.int .u64 (y.o.hk : Int)) := hyc 4 _ rfl
      have y5 : wr.cell? ⟨bk, off + i * 11 + 5, none⟩ = some (.bool y.r5) := hyc 5 _ rfl
      have y6 : wr.cell? ⟨bk, off + i * 11 + 6, none⟩ = some (.int .i64 y.r6) := hyc 6 _ rfl
      have y7 : wr.cell? ⟨bk, off + i * 11 + 7, none⟩ = some (.int .i64 y.r7) := hyc 7 _ rfl
      have y8 : wr.cell? ⟨bk, off + i * 11 + 8, none⟩ = some (.slice y.kp y.o.ks.length y.kc) := hyc 8 _ rfl
      have y9 : wr.cell? ⟨bk, off + i * 11 + 9, none⟩ = some (.int .u64 (y.o.lo : Int)) := hyc 9 _ rfl
      have y10 : wr.cell? ⟨bk, off + i * 11 + 10, none⟩ = some (.int .u64 (y.o.hi : Int)) := hyc 10 _ rfl
      have q1 : (i : Int) < (l.length : Int) := by omega
      have HIL : Hid (i + 1 ≤ 8796093022000 ∧ i ≤ 8796093021999) := by have := HL.out; show _ ∧ _; omega
      have HDo := keepH (two_do hyo (fun bk off e e2 => by
        rcases hyo.ks with q | ⟨b1, o1, e3, hb1, _⟩
        · exact absurd q e2
        · rw [e] at e3; injection e3 with e3; injection e3 with e3 e4; omega) T HB.out.2.2.2.2 HIL.out.2)
      have HYO := keepH hyo
      have HPC := keepH hpc
      clear hyc hyo T hpc hy HK
      go_wp2_with fail
      refine HDo.out.mono ?_
      rintro e w1 ⟨A, p, c, rfl, f1, h1, g1, T1, hS, hP, hPL⟩
      have HT1 := keepH T1
      have HSP := keepH hS
      have HPP := keepH hP
      have HPL := keepH hPL
      clear T1 hS hP hPL
      go_upto_region 12 with fail
      obtain ⟨w3, hw3⟩ : ∃ w3, w3 = w1.alloc (.cells #[.int .i64 A.e, .bool A.f, .int .u64 (A.x : Int), .bool A.d, .int .u64 (A.h : Int), .slice p A.l.length c, .int .u64 (A.n : Int)] 33) := ⟨_, rfl⟩
      rw [← hw3]
      have CW3 : Chg (fun _ => False) w1 w3 := by rw [hw3]; exact (Chg.refl _ _).alloc _
      have HS0 : Hid (Chg (fun _ => False) W w3.drew ∧ w3.drew.heap[w1.heap.size]? = some (.cells #[.int .i64 A.e, .bool A.f, .int .u64 (A.x : Int), .bool A.d, .int .u64 (A.h : Int), .slice p A.l.length c, .int .u64 (A.n : Int)] 33 (0, 0))) := by
        refine ⟨(HT1.out.ch.trans CW3 (fun _ _ x => x) (fun _ _ x => x)).drew, ?_⟩
        show w3.heap[w1.heap.size]? = _
        rw [hw3]
        exact heap_alloc_new _ _
      have HTK := keepH (two_take HYO.out (c := c) ((HT1.out.quiet CW3).quiet (Chg.refl (fun _ => False) w3).drew) (by rw [HPC.out]; exact HSP.out) ((HPP.out.chgF CW3 (fun _ _ _ x => x)).chgF (Chg.refl (fun _ => False) w3).drew (fun _ _ _ x => x)) HPL.out HB.out.2.2.2.2 HIL.out.2)
      have HAB : Hid (kb.s < w1.heap.size ∧ kb.nw' < w1.heap.size ∧ kb.hd' < w1.heap.size) := by
        have := HT1.out.zw
        have := HOKB.out.hi
        show _ ∧ _ ∧ _
        omega
      clear hw3 CW3 HDo HPP HSP HPC y0 y1 y2 y3 y4 y5 y6 y7 y8 y9 y10
      go_cut [78] from 58 to 78 (fun s78 wz => s78 = .bool false ∧ Hid (∃ f h g h' g', Two W wz kb mu N Z (i + 1) (i + 1) f h g f h' g' ∧ pcs h' g' = pcs h g))
      case first =>
        refine wp_region_held_drew (S := fun w' => Chg (fun _ => False) W w' ∧ w'.heap[w1.heap.size]? = some (.cells #[.int .i64 A.e, .bool A.f, .int .u64 (A.x : Int), .bool A.d, .int .u64 (A.h : Int), .slice p A.l.length c, .int .u64 (A.n : Int)] 33 (0, 0))) (by kernel_rfl) (HS0.out) ?_
        intro hHeld
        refine wpAnyH_take (i := 0) (v := ?_) rfl (by kernel_rfl) (by kernel_rfl) (by kernel_rfl) (fun _ _ _ h => h) (Or.inl ⟨by rfl, ?_⟩) hHeld ?_
        rotate_left
        · intro w hSw
          (try dsimp only at hSw)
          go_simp
          try with_reducible rfl
        (try simp only [Act.put, List.getElem_toArray, List.getElem_cons_succ, List.getElem_cons_zero]); (try simp only [List.setIfInBounds_toArray]); (repeat (first | simp only [List.set_cons_succ] | simp only [List.set_cons_zero]))
        refine wpAnyH_take (i := 1) (v := ?_) rfl (by kernel_rfl) (by kernel_rfl) (by kernel_rfl) (fun _ _ _ h => h) (Or.inl ⟨by rfl, ?_⟩) hHeld ?_
        rotate_left
        · intro w hSw
          (try dsimp only at hSw)
          go_simp
          try with_reducible rfl
        (try simp only [Act.put, List.getElem_toArray, List.getElem_cons_succ, List.getElem_cons_zero]); (try simp only [List.setIfInBounds_toArray]); (repeat (first | simp only [List.set_cons_succ] | simp only [List.set_cons_zero]))
        refine wpAnyH_take (i := 2) (v := ?_) rfl (by kernel_rfl) (by kernel_rfl) (by kernel_rfl) (fun _ _ _ h => h) (Or.inl ⟨by rfl, ?_⟩) hHeld ?_
        rotate_left
        · intro w hSw
          (try dsimp only at hSw)
          go_simp
          try with_reducible rfl
        (try simp only [Act.put, List.getElem_toArray, List.getElem_cons_succ, List.getElem_cons_zero]); (try simp only [List.setIfInBounds_toArray]); (repeat (first | simp only [List.set_cons_succ] | simp only [List.set_cons_zero]))
        refine wpAnyH_take (i := 3) (v := ?_) rfl (by kernel_rfl) (by kernel_rfl) (by kernel_rfl) (fun _ _ _ h => h) (Or.inl ⟨by rfl, ?_⟩) hHeld ?_
        rotate_left
        · intro w hSw
          (try dsimp only at hSw)
          go_simp
          try with_reducible rfl
        (try simp only [Act.put, List.getElem_toArray, List.getElem_cons_succ, List.getElem_cons_zero]); (try simp only [List.setIfInBounds_toArray]); (repeat (first | simp only [List.set_cons_succ] | simp only [List.set_cons_zero]))
        refine wpAnyH_take (i := 4) (v := ?_) rfl (by kernel_rfl) (by kernel_rfl) (by kernel_rfl) (fun _ _ _ h => h) (Or.inl ⟨by rfl, ?_⟩) hHeld ?_
        rotate_left
        · intro w hSw
          (try dsimp only at hSw)
          go_simp
          try with_reducible rfl
        (try simp only [Act.put, List.getElem_toArray, List.getElem_cons_succ, List.getElem_cons_zero]); (try simp only [List.setIfInBounds_toArray]); (repeat (first | simp only [List.set_cons_succ] | simp only [List.set_cons_zero]))
        refine wpAnyH_take (i := 5) (v := ?_) rfl (by kernel_rfl) (by kernel_rfl) (by kernel_rfl) (fun _ _ _ h => h) (Or.inl ⟨by rfl, ?_⟩) hHeld ?_
        rotate_left
        · intro w hSw
          (try dsimp only at hSw)
          go_simp
          try with_reducible rfl
        (try simp only [Act.put, List.getElem_toArray, List.getElem_cons_succ, List.getElem_cons_zero]); (try simp only [List.setIfInBounds_toArray]); (repeat (first | simp only [List.set_cons_succ] | simp only [List.set_cons_zero]))
        refine wpAnyH_take (i := 6) (v := ?_) rfl (by kernel_rfl) (by kernel_rfl) (by kernel_rfl) (fun _ _ _ h => h) (Or.inl ⟨by rfl, ?_⟩) hHeld ?_
        rotate_left
        · intro w hSw
          (try dsimp only at hSw)
          go_simp
          try with_reducible rfl
        (try simp only [Act.put, List.getElem_toArray, List.getElem_cons_succ, List.getElem_cons_zero]); (try simp only [List.setIfInBounds_toArray]); (repeat (first | simp only [List.set_cons_succ] | simp only [List.set_cons_zero]))
        refine wpAnyH_take (i := 7) (v := ?_) rfl (by kernel_rfl) (by kernel_rfl) (by kernel_rfl) (fun _ _ _ h => h) (Or.inl ⟨by rfl, ?_⟩) hHeld ?_
        rotate_left
        · intro w hSw
          (try dsimp only at hSw)
          go_simp
          try with_reducible rfl
        (try simp only [Act.put, List.getElem_toArray, List.getElem_cons_succ, List.getElem_cons_zero]); (try simp only [List.setIfInBounds_toArray]); (repeat (first | simp only [List.set_cons_succ] | simp only [List.set_cons_zero]))
        refine wpAnyH_take (i := 8) (v := ?_) rfl (by kernel_rfl) (by kernel_rfl) (by kernel_rfl) (fun _ _ _ h => h) (Or.inl ⟨by rfl, ?_⟩) hHeld ?_
        rotate_left
        · intro w hSw
          (try dsimp only at hSw)
          have yy := HOC.out w hSw.1
          have y0 : w.cell? ⟨bk, off + i * 11, none⟩ = some (.int .u8 y.o.kd) := yy 0 _ rfl
          have y1 : w.cell? ⟨bk, off + i * 11 + 1, none⟩ = some (.int .u64 (y.o.k : Int)) := yy 1 _ rfl
          have y2 : w.cell? ⟨bk, off + i * 11 + 2, none⟩ = some (.int .u64 (y.o.v : Int)) := yy 2 _ rfl
          have y3 : w.cell? ⟨bk, off + i * 11 + 3, none⟩ = some (.int .u64 (y.o.od : Int)) := yy 3 _ rfl
          have y4 : w.cell? ⟨bk, off + i * 11 + 4, none⟩ = some (.int .u64 (y.o.hk : Int)) := yy 4 _ rfl
          have y5 : w.cell? ⟨bk, off + i * 11 + 5, none⟩ = some (.bool y.r5) := yy 5 _ rfl
          have y6 : w.cell? ⟨bk, off + i * 11 + 6, none⟩ = some (.int .i64 y.r6) := yy 6 _ rfl
          have y7 : w.cell? ⟨bk, off + i * 11 + 7, none⟩ = some (.int .i64 y.r7) := yy 7 _ rfl
          have y8 : w.cell? ⟨bk, off + i * 11 + 8, none⟩ = some (.slice y.kp y.o.ks.length y.kc) := yy 8 _ rfl
          have y9 : w.cell? ⟨bk, off + i * 11 + 9, none⟩ = some (.int .u64 (y.o.lo : Int)) := yy 9 _ rfl
          have y10 : w.cell? ⟨bk, off + i * 11 + 10, none⟩ = some (.int .u64 (y.o.hi : Int)) := yy 10 _ rfl
          clear hSw yy
          go_simp
          try with_reducible rfl
        (try simp only [Act.put, List.getElem_toArray, List.getElem_cons_succ, List.getElem_cons_zero]); (try simp only [List.setIfInBounds_toArray]); (repeat (first | simp only [List.set_cons_succ] | simp only [List.set_cons_zero]))
        refine wpAnyH_take (i := 9) (v := ?_) rfl (by kernel_rfl) (by kernel_rfl) (by kernel_rfl) (fun _ _ _ h => h) (Or.inl ⟨by rfl, ?_⟩) hHeld ?_
        rotate_left
        · intro w hSw
          (try dsimp only at hSw)
          have y0 := cell_of hSw.2 0
          have y1 := cell_of hSw.2 1
          have y2 := cell_of hSw.2 2
          have y3 := cell_of hSw.2 3
          have y4 := cell_of hSw.2 4
          have y5 := cell_of hSw.2 5
          have y6 := cell_of hSw.2 6
          clear hSw
          go_simp
          try with_reducible rfl
        (try simp only [Act.put, List.getElem_toArray, List.getElem_cons_succ, List.getElem_cons_zero]); (try simp only [List.setIfInBounds_toArray]); (repeat (first | simp only [List.set_cons_succ] | simp only [List.set_cons_zero]))
        refine wpAnyH_ready (rs := [10]) (by kernel_rfl) (by simp) ?_
        refine AllReadyH.cons rfl (fun KK hKK => ?_) AllReadyH.nil
        go_simp
        go_at_call 12
        refine HTK.out.mono ?_
        rintro e v1 ⟨rfl, ⟨h2, g2, T2, hpc2⟩, cT⟩
        have HT2 := keepH T2
        have HPC2 := keepH hpc2
        have HS1 : Hid (Chg (fun _ => False) W v1 ∧ v1.heap[w1.heap.size]? = some (.cells #[.int .i64 A.e, .bool A.f, .int .u64 (A.x : Int), .bool A.d, .int .u64 (A.h : Int), .slice p A.l.length c, .int .u64 (A.n : Int)] 33 (0, 0))) := ⟨T2.ch, (cT.block _ (lt_of HS0.out.2) (by have := HAB.out; omega)).trans HS0.out.2⟩
        clear T2 hpc2 cT
        try go_wp2_with fail
        refine hKK.out _ _ ?_ (fun hHeld => ?_)
        · exact HS1.out
        clear hKK KK
        (try simp only [Act.put, List.getElem_toArray, List.getElem_cons_succ, List.getElem_cons_zero]); (try simp only [List.setIfInBounds_toArray]); (repeat (first | simp only [List.set_cons_succ] | simp only [List.set_cons_zero]))
        refine wpAnyH_take (i := 11) (v := ?_) rfl (by kernel_rfl) (by kernel_rfl) (by kernel_rfl) (fun _ _ _ h => h) (Or.inl ⟨by rfl, ?_⟩) hHeld ?_
        rotate_left
        · intro w hSw
          (try dsimp only at hSw)
          go_simp
          try with_reducible rfl
        (try simp only [Act.put, List.getElem_toArray, List.getElem_cons_succ, List.getElem_cons_zero]); (try simp only [List.setIfInBounds_toArray]); (repeat (first | simp only [List.set_cons_succ] | simp only [List.set_cons_zero]))
        refine wpAnyH_take (i := 12) (v := ?_) rfl (by kernel_rfl) (by kernel_rfl) (by kernel_rfl) (fun _ _ _ h => h) (Or.inl ⟨by rfl, ?_⟩) hHeld ?_
        rotate_left
        · intro w hSw
          (try dsimp only at hSw)
          go_simp
          try with_reducible rfl
        (try simp only [Act.put, List.getElem_toArray, List.getElem_cons_succ, List.getElem_cons_zero]); (try simp only [List.setIfInBounds_toArray]); (repeat (first | simp only [List.set_cons_succ] | simp only [List.set_cons_zero]))
        refine wpAnyH_take (i := 13) (v := ?_) rfl (by kernel_rfl) (by kernel_rfl) (by kernel_rfl) (fun _ _ _ h => h) (Or.inl ⟨by rfl, ?_⟩) hHeld ?_
        rotate_left
        · intro w hSw
          (try dsimp only at hSw)
          go_simp
          try with_reducible rfl
        (try simp only [Act.put, List.getElem_toArray, List.getElem_cons_succ, List.getElem_cons_zero]); (try simp only [List.setIfInBounds_toArray]); (repeat (first | simp only [List.set_cons_succ] | simp only [List.set_cons_zero]))
        refine wpAnyH_take (i := 14) (v := ?_) rfl (by kernel_rfl) (by kernel_rfl) (by kernel_rfl) (fun _ _ _ h => h) (Or.inl ⟨by rfl, ?_⟩) hHeld ?_
        rotate_left
        · intro w hSw
          (try dsimp only at hSw)
          go_simp
          try with_reducible rfl
        (try simp only [Act.put, List.getElem_toArray, List.getElem_cons_succ, List.getElem_cons_zero]); (try simp only [List.setIfInBounds_toArray]); (repeat (first | simp only [List.set_cons_succ] | simp only [List.set_cons_zero]))
        refine wpAnyH_take (i := 16) (v := ?_) rfl (by kernel_rfl) (by kernel_rfl) (by kernel_rfl) (fun _ _ _ h => h) (Or.inl ⟨by rfl, ?_⟩) hHeld ?_
        rotate_left
        · intro w hSw
          (try dsimp only at hSw)
          go_simp
          try with_reducible rfl
        (try simp only [Act.put, List.getElem_toArray, List.getElem_cons_succ, List.getElem_cons_zero]); (try simp only [List.setIfInBounds_toArray]); (repeat (first | simp only [List.set_cons_succ] | simp only [List.set_cons_zero]))
        refine wpAnyH_ready (rs := [15]) (by kernel_rfl) (by simp) ?_
        refine AllReadyH.cons rfl (fun KK hKK => ?_) AllReadyH.nil
        go_simp
        go_at_call 8
        refine (two_kc HT2.out (by have := HIL.out; omega)).mono ?_
        rintro e v2 ⟨⟨pk, ck, lk, rfl, hLk, hPk, hBk, hNk⟩, TK, cK⟩
        have HTKv2 := keepH TK
        have HKv2 : Hid (Lists f1 0 18446744073709551615 lk ∧ PairsAt v2 pk lk ∧ (∀ bk off, pk = some ⟨bk, off, none⟩ → v1.heap.size ≤ bk) ∧ lk.length ≤ i + 1) := ⟨hLk, hPk, hBk, hNk⟩
        have HCKv2 := keepH cK
        have HSv2 : Hid (Chg (fun _ => False) W v2 ∧ v2.heap[w1.heap.size]? = some (.cells #[.int .i64 A.e, .bool A.f, .int .u64 (A.x : Int), .bool A.d, .int .u64 (A.h : Int), .slice p A.l.length c, .int .u64 (A.n : Int)] 33 (0, 0))) := ⟨TK.ch, (cK.block _ (lt_of HS1.out.2) (by have := HAB.out; omega)).trans HS1.out.2⟩
        clear hLk hPk hBk hNk TK cK
        try go_wp2_with fail
        refine hKK.out _ _ ?_ (fun hHeld => ?_)
        · exact HSv2.out
        clear hKK KK
        (try simp only [Act.put, List.getElem_toArray, List.getElem_cons_succ, List.getElem_cons_zero]); (try simp only [List.setIfInBounds_toArray]); (repeat (first | simp only [List.set_cons_succ] | simp only [List.set_cons_zero]))
        refine wpAnyH_ready (rs := [17]) (by kernel_rfl) (by simp) ?_
        refine AllReadyH.cons rfl (fun KK hKK => ?_) AllReadyH.nil
        go_simp
        go_at_call 14
        refine (m_content (HTKv2.out).mo' (by have := HIL.out; omega)).mono ?_
        rintro e v3 ⟨⟨pm, cm, lm, rfl, hLm, hPm, hBm, hNm⟩, cM⟩
        have HTMv3 := keepH ((HTKv2.out).quiet cM)
        have HMv3 : Hid (Lists f1 0 18446744073709551615 lm ∧ PairsAt v3 pm lm ∧ (∀ bk off, pm = some ⟨bk, off, none⟩ → v2.heap.size ≤ bk) ∧ lm.length ≤ i + 1) := ⟨hLm, hPm, hBm, hNm⟩
        have HCMv3 := keepH cM
        have HSv3 : Hid (Chg (fun _ => False) W v3 ∧ v3.heap[w1.heap.size]? = some (.cells #[.int .i64 A.e, .bool A.f, .int .u64 (A.x : Int), .bool A.d, .int .u64 (A.h : Int), .slice p A.l.length c, .int .u64 (A.n : Int)] 33 (0, 0))) := ⟨HTMv3.out.ch, (cM.block _ (lt_of HSv2.out.2) (fun x => x)).trans HSv2.out.2⟩
        clear hLm hPm hBm hNm cM
        try go_wp2_with fail
        refine hKK.out _ _ ?_ (fun hHeld => ?_)
        · exact HSv3.out
        clear hKK KK
        (try simp only [Act.put, List.getElem_toArray, List.getElem_cons_succ, List.getElem_cons_zero]); (try simp only [List.setIfInBounds_toArray]); (repeat (first | simp only [List.set_cons_succ] | simp only [List.set_cons_zero]))
        refine wpAnyH_ready (rs := [18]) (by kernel_rfl) (by simp) ?_
        refine AllReadyH.cons rfl (fun KK hKK => ?_) AllReadyH.nil
        go_simp
        go_at_call 13
        refine (r_pairs pk pm ck cm lk lm v3 (HKv2.out.2.1.chgF HCMv3.out (fun _ _ _ x => x)) HMv3.out.2.1 (by have := HIL.out; have := HKv2.out.2.2.2; omega) (by have := HIL.out; have := HMv3.out.2.2.2; omega)).mono ?_
        rintro e v4 ⟨rfl, cS⟩
        have eq : lk = lm := Lists.unique HKv2.out.1 HMv3.out.1
        rw [show decide (lk = lm) = true from decide_eq_true eq]
        have HT4 := keepH ((HTMv3.out).quiet cS)
        have HS4 : Hid (Chg (fun _ => False) W v4 ∧ v4.heap[w1.heap.size]? = some (.cells #[.int .i64 A.e, .bool A.f, .int .u64 (A.x : Int), .bool A.d, .int .u64 (A.h : Int), .slice p A.l.length c, .int .u64 (A.n : Int)] 33 (0, 0))) := ⟨HT4.out.ch, (cS.block _ (lt_of HSv3.out.2) (fun x => x)).trans HSv3.out.2⟩
        clear eq cS
        try go_wp2_with fail
        refine hKK.out _ _ ?_ (fun hHeld => ?_)
        · exact HS4.out
        clear hKK KK
        (try simp only [Act.put, List.getElem_toArray, List.getElem_cons_succ, List.getElem_cons_zero]); (try simp only [List.setIfInBounds_toArray]); (repeat (first | simp only [List.set_cons_succ] | simp only [List.set_cons_zero]))
        refine wpAnyH_take (i := 19) (v := ?_) rfl (by kernel_rfl) (by kernel_rfl) (by kernel_rfl) (fun _ _ _ h => h) (Or.inl ⟨by rfl, ?_⟩) hHeld ?_
        rotate_left
        · intro w hSw
          (try dsimp only at hSw)
          go_simp
          try with_reducible rfl
        (try simp only [Act.put, List.getElem_toArray, List.getElem_cons_succ, List.getElem_cons_zero]); (try simp only [List.setIfInBounds_toArray]); (repeat (first | simp only [List.set_cons_succ] | simp only [List.set_cons_zero]))
        refine wpAnyH_take (i := 20) (v := ?_) rfl (by kernel_rfl) (by kernel_rfl) (by kernel_rfl) (fun _ _ _ h => h) (Or.inl ⟨by rfl, ?_⟩) hHeld ?_
        rotate_left
        · intro w hSw
          (try dsimp only at hSw)
          go_simp
          try with_reducible rfl
        (try simp only [Act.put, List.getElem_toArray, List.getElem_cons_succ, List.getElem_cons_zero]); (try simp only [List.setIfInBounds_toArray]); (repeat (first | simp only [List.set_cons_succ] | simp only [List.set_cons_zero]))
        refine wpAnyH_done (by kernel_rfl) ?_ _
        go_simp
        try go_wp2_with fail
        go_meet
        exact ⟨rfl, f1, h1, g1, h2, g2, HT4.out, HPC2.out⟩
      case rest =>
        obtain ⟨rfl, HZZ⟩ := hcut
        go_wp2_with fail
        go_roundw
        case rel => exact ⟨i + 1, by omega, by first | rfl | go_num | simp, HZZ.out⟩
        case measure => exact meas c1
    · have q1 : ¬ (i : Int) < (l.length : Int) := by omega
      obtain ⟨f, h, g, h', g', T, hpc⟩ := HK.out
      obtain ⟨hc, lf, sl, S, I, hlN⟩ := T.sl
      have HT := keepH T
      have HFew : Hid (∀ w, Two W w kb mu N Z i i f h g f h' g' → Calls Try.prog 15 #[.pointer (some ⟨kb.m', 0, none⟩)] w fun e w' => (∃ p c, ∃ ss : List Nat, e = .returned (.slice p ss.length c) ∧ (ss.length : Int) ≤ (N : Int)) ∧ Chg (fun _ => False) w w') := by
        intro w Tw
        have hall : ∀ x, (h' x).isSome = true → x ∈ hdls sl := fun x hx => I.all x (by rw [← hpc]; simpa [pcs] using hx)
        refine (m_handlesT Tw.mo' (held_few Tw.mo'.held hall) (by rw [hdls_len, hlN]; have := HB.out; omega)).mono ?_
        rintro e w' ⟨⟨p, c, ss, rfl, hA⟩, cw⟩
        refine ⟨⟨p, c, ss, rfl, ?_⟩, cw⟩
        have := List.Nodup.length_le_of_subset hA.1 (fun x hx => hall x ((hA.2 x).1 hx))
        rw [hdls_len, hlN] at this
        omega
      have HCF : Hid (wr.drew.heap[W.heap.size]? = some (.cells #[.int .i64 a, .int .i64 (N : Int), .int .u64 (st : Int), .int .i64 (mu : Int)] 40 (0, 0))) := by
        have := T.cf
        rw [HCfg.out] at this
        exact this
      have HTD := keepH (T.quiet (Chg.refl (fun _ => False) wr).drew)
      clear T hpc S I hlN HK
      go_upto_region 14 with fail
      refine wp_region_held_drew (S := fun w' => w'.heap[W.heap.size]? = some (.cells #[.int .i64 a, .int .i64 (N : Int), .int .u64 (st : Int), .int .i64 (mu : Int)] 40 (0, 0))) (by kernel_rfl) (HCF.out) ?_
      intro hHeld
      refine wpAnyH_ready (rs := [0]) (by kernel_rfl) (by simp) ?_
      refine AllReadyH.cons rfl (fun KK hKK => ?_) AllReadyH.nil
      go_simp
      go_at_call 7
      refine (live_25 _).mono ?_
      rintro e v1 ⟨rfl, cV⟩
      have HT1 := keepH (HTD.out.quiet cV)
      have HS1 : Hid (v1.heap[W.heap.size]? = some (.cells #[.int .i64 a, .int .i64 (N : Int), .int .u64 (st : Int), .int .i64 (mu : Int)] 40 (0, 0))) := (cV.block _ (lt_of HCF.out) (fun x => x)).trans HCF.out
      clear cV
      try go_wp2_with fail
      refine hKK.out _ _ ?_ (fun hHeld => ?_)
      · exact HS1.out
      clear hKK KK
      (try simp only [Act.put, List.getElem_toArray, List.getElem_cons_succ, List.getElem_cons_zero]); (try simp only [List.setIfInBounds_toArray]); (repeat (first | simp only [List.set_cons_succ] | simp only [List.set_cons_zero]))
      refine wpAnyH_take (i := 1) (v := ?_) rfl (by kernel_rfl) (by kernel_rfl) (by kernel_rfl) (fun _ _ _ h => h) (Or.inl ⟨by rfl, ?_⟩) hHeld ?_
      rotate_left
      · intro w hSw
        (try dsimp only at hSw)
        go_simp
        try with_reducible rfl
      (try simp only [Act.put, List.getElem_toArray, List.getElem_cons_succ, List.getElem_cons_zero]); (try simp only [List.setIfInBounds_toArray]); (repeat (first | simp only [List.set_cons_succ] | simp only [List.set_cons_zero]))
      refine wpAnyH_take (i := 2) (v := ?_) rfl (by kernel_rfl) (by kernel_rfl) (by kernel_rfl) (fun _ _ _ h => h) (Or.inl ⟨by rfl, ?_⟩) hHeld ?_
      rotate_left
      · intro w hSw
        (try dsimp only at hSw)
        go_simp
        try with_reducible rfl
      (try simp only [Act.put, List.getElem_toArray, List.getElem_cons_succ, List.getElem_cons_zero]); (try simp only [List.setIfInBounds_toArray]); (repeat (first | simp only [List.set_cons_succ] | simp only [List.set_cons_zero]))
      refine wpAnyH_take (i := 5) (v := ?_) rfl (by kernel_rfl) (by kernel_rfl) (by kernel_rfl) (fun _ _ _ h => h) (Or.inl ⟨by rfl, ?_⟩) hHeld ?_
      rotate_left
      · intro w hSw
        (try dsimp only at hSw)
        go_simp
        try with_reducible rfl
      (try simp only [Act.put, List.getElem_toArray, List.getElem_cons_succ, List.getElem_cons_zero]); (try simp only [List.setIfInBounds_toArray]); (repeat (first | simp only [List.set_cons_succ] | simp only [List.set_cons_zero]))
      refine wpAnyH_take (i := 6) (v := ?_) rfl (by kernel_rfl) (by kernel_rfl) (by kernel_rfl) (fun _ _ _ h => h) (Or.inl ⟨by rfl, ?_⟩) hHeld ?_
      rotate_left
      · intro w hSw
        (try dsimp only at hSw)
        have y1 := cell_of hSw 1
        clear hSw
        go_simp
        try with_reducible rfl
      (try simp only [Act.put, List.getElem_toArray, List.getElem_cons_succ, List.getElem_cons_zero]); (try simp only [List.setIfInBounds_toArray]); (repeat (first | simp only [List.set_cons_succ] | simp only [List.set_cons_zero]))
      refine wpAnyH_ready (rs := [3]) (by kernel_rfl) (by simp) ?_
      refine AllReadyH.cons rfl (fun KK hKK => ?_) AllReadyH.nil
      go_simp
      go_at_call 15
      refine (HFew.out v1 HT1.out).mono ?_
      rintro e v2 ⟨⟨ph, ch, ss, rfl, hle⟩, cV⟩
      have HCH : Hid (Chg (fun _ => False) W v2) := HT1.out.ch.trans cV (fun _ _ x => x) (fun _ _ x => x)
      have HS2 : Hid (v2.heap[W.heap.size]? = some (.cells #[.int .i64 a, .int .i64 (N : Int), .int .u64 (st : Int), .int .i64 (mu : Int)] 40 (0, 0))) := (cV.block _ (lt_of HS1.out) (fun x => x)).trans HS1.out
      have hle2 : ss.length ≤ N := by omega
      clear cV
      try go_wp2_with fail
      refine hKK.out _ _ ?_ (fun hHeld => ?_)
      · exact HS2.out
      clear hKK KK
      (try simp only [Act.put, List.getElem_toArray, List.getElem_cons_succ, List.getElem_cons_zero]); (try simp only [List.setIfInBounds_toArray]); (repeat (first | simp only [List.set_cons_succ] | simp only [List.set_cons_zero]))
      refine wpAnyH_take (i := 4) (v := ?_) rfl (by kernel_rfl) (by kernel_rfl) (by kernel_rfl) (fun _ _ _ h => h) (Or.inl ⟨by rfl, ?_⟩) hHeld ?_
      rotate_left
      · intro w hSw
        (try dsimp only at hSw)
        go_simp
        try with_reducible rfl
      (try simp only [Act.put, List.getElem_toArray, List.getElem_cons_succ, List.getElem_cons_zero]); (try simp only [List.setIfInBounds_toArray]); (repeat (first | simp only [List.set_cons_succ] | simp only [List.set_cons_zero]))
      refine wpAnyH_take (i := 7) (v := ?_) rfl (by kernel_rfl) (by kernel_rfl) (by kernel_rfl) (fun _ _ _ h => h) (Or.inl ⟨by rfl, ?_⟩) hHeld ?_
      rotate_left
      · intro w hSw
        (try dsimp only at hSw)
        go_simp
        try with_reducible rfl
      (try simp only [Act.put, List.getElem_toArray, List.getElem_cons_succ, List.getElem_cons_zero]); (try simp only [List.setIfInBounds_toArray]); (repeat (first | simp only [List.set_cons_succ] | simp only [List.set_cons_zero]))
      refine wpAnyH_take (i := 8) (v := ?_) rfl (by kernel_rfl) (by kernel_rfl) (by kernel_rfl) (fun _ _ _ h => h) (Or.inl ⟨by rfl, ?_⟩) hHeld ?_
      rotate_left
      · intro w hSw
        (try dsimp only at hSw)
        go_simp
        try with_reducible rfl
      (try simp only [Act.put, List.getElem_toArray, List.getElem_cons_succ, List.getElem_cons_zero]); (try simp only [List.setIfInBounds_toArray]); (repeat (first | simp only [List.set_cons_succ] | simp only [List.set_cons_zero]))
      refine wpAnyH_take (i := 9) (v := ?_) rfl (by kernel_rfl) (by kernel_rfl) (by kernel_rfl) (fun _ _ _ h => h) (Or.inl ⟨by rfl, ?_⟩) hHeld ?_
      rotate_left
      · intro w hSw
        (try dsimp only at hSw)
        go_simp
        try with_reducible rfl
      (try simp only [Act.put, List.getElem_toArray, List.getElem_cons_succ, List.getElem_cons_zero]); (try simp only [List.setIfInBounds_toArray]); (repeat (first | simp only [List.set_cons_succ] | simp only [List.set_cons_zero]))
      refine wpAnyH_done (by kernel_rfl) ?_ _
      go_simp
      go_wp2_with fail
      go_ret
      exact ⟨by simp, HCH.out⟩
end Go.Proofs.Ytgaincicbgojjaa
