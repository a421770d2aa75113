/- The reader's pair. -/
import Derived.Test.YtbmfjcdafjknaabEN
namespace Go.Proofs.Ytbmfjcdafjknaab
open Go.RowKit
set_option linter.unusedVariables false

/-- What a pair's read leaves: the reader, and the cell of the pair that is told. -/
structure PI (W X : World) (R : Nat) (p : Option Addr) (bs : List Nat) (c i : Nat) : Prop where
  rd : Rd X R p bs c i
  ch : Chg (fun j => j = R) W X
  bl : X.heap[W.heap.size]? = some (.cells #[.int .u64 0, .int .u64 0] 59 (0, 0))
  lt : R < W.heap.size
theorem PI.start {W : World} {R : Nat} {p : Option Addr} {bs : List Nat} {c i : Nat} (h : Rd W R p bs c i) : PI W (W.alloc (.cells #[.int .u64 0, .int .u64 0] 59 (0, 0))) R p bs c i :=
  ⟨h.on ((Chg.refl (fun _ => False) W).alloc _) (fun x => x) (fun _ _ _ x => x), (Chg.refl _ W).alloc _, Array.getElem?_push_size, h.lt⟩
theorem PI.on {W X Y : World} {R : Nat} {p : Option Addr} {bs : List Nat} {c i j : Nat} (h : PI W X R p bs c i) (h1 : Rd Y R p bs c j) (h2 : Chg (fun j => j = R) X Y) : PI W Y R p bs c j :=
  ⟨h1, h.ch.trans h2 (fun _ _ x => x) (fun _ _ x => x), (h2.block _ (lt_of h.bl) (fun e => by have := h.lt; omega)).trans h.bl, h.lt⟩
theorem PI.c0 {W X : World} {R : Nat} {p : Option Addr} {bs : List Nat} {c i : Nat} (h : PI W X R p bs c i) : X.cell? ⟨W.heap.size, 0, none⟩ = some (.int .u64 0) := by rw [cell_of h.bl]; rfl
theorem PI.c1 {W X : World} {R : Nat} {p : Option Addr} {bs : List Nat} {c i : Nat} (h : PI W X R p bs c i) : X.cell? ⟨W.heap.size, 1, none⟩ = some (.int .u64 0) := by rw [cell_of h.bl]; rfl
theorem PI.f0 {W X : World} {R : Nat} {p : Option Addr} {bs : List Nat} {c i : Nat} (h : PI W X R p bs c i) : X.frozen? ⟨W.heap.size, 0, none⟩ = false := free_of h.bl 0
theorem PI.f1 {W X : World} {R : Nat} {p : Option Addr} {bs : List Nat} {c i : Nat} (h : PI W X R p bs c i) : X.frozen? ⟨W.heap.size, 1, none⟩ = false := free_of h.bl 1
theorem PI.cells {W X : World} {R : Nat} {p : Option Addr} {bs : List Nat} {c i : Nat} (h : PI W X R p bs c i) (v0 v1 : Value) : ((X.setCell ⟨W.heap.size, 0, none⟩ v0).setCell ⟨W.heap.size, 1, none⟩ v1).cell? ⟨W.heap.size, 0, none⟩ = some v0 ∧ ((X.setCell ⟨W.heap.size, 0, none⟩ v0).setCell ⟨W.heap.size, 1, none⟩ v1).cell? ⟨W.heap.size, 1, none⟩ = some v1 := by
  have q := set_of (set_of h.bl 0 v0) 1 v1
  exact ⟨by rw [cell_of q]; rfl, by rw [cell_of q]; rfl⟩
theorem PI.fin {W X : World} {R : Nat} {p : Option Addr} {bs : List Nat} {c i : Nat} (h : PI W X R p bs c i) (hp : ∀ b o, pB bs p = some ⟨b, o, none⟩ → b < W.heap.size) (v0 v1 : Value) : Rd ((X.setCell ⟨W.heap.size, 0, none⟩ v0).setCell ⟨W.heap.size, 1, none⟩ v1) R p bs c i ∧ Chg (fun j => j = R) W ((X.setCell ⟨W.heap.size, 0, none⟩ v0).setCell ⟨W.heap.size, 1, none⟩ v1) := by
  have hc : Chg (fun k => k = W.heap.size) X ((X.setCell ⟨W.heap.size, 0, none⟩ v0).setCell ⟨W.heap.size, 1, none⟩ v1) := Chg.setCell (F := fun k => k = W.heap.size) (p := ⟨W.heap.size, 1, none⟩) (Chg.setCell (F := fun k => k = W.heap.size) (p := ⟨W.heap.size, 0, none⟩) (Chg.refl _ _) (fun _ => rfl) _) (fun _ => rfl) _
  refine ⟨h.rd.on hc (by have := h.lt; omega) (fun b o e x => by have := hp b o e; omega), ?_⟩
  exact h.ch.trans hc (fun _ _ x => x) (fun k hk x => by omega)
theorem rdN_lt (l : List Nat) : ∀ (p a : Nat), p ≤ 9 → a < 128 ^ p → small8 l → (rdN l p a).1 < 18446744073709551616 := by
  have hp : ∀ p, p ≤ 9 → 128 ^ p ≤ 9223372036854775808 := by decide
  induction l with
  | nil => intro p a h1 h2 _; have := hp p h1; simp [rdN]; omega
  | cons c t ih =>
    intro p a h1 h2 hs
    have b := hp p h1
    by_cases hm : mayS c p = true
    · have hm2 := hm
      unfold mayS at hm2
      simp only [Bool.and_eq_true, Bool.or_eq_true, decide_eq_true_eq] at hm2
      have hb : a + c % 128 * 128 ^ p < 18446744073709551616 := by
        by_cases h9 : p < 9
        · have h8 : 128 ^ p ≤ 128 ^ 8 := Nat.pow_le_pow_right (by decide) (by omega)
          have := Nat.mul_le_mul (show c % 128 ≤ 127 by omega) h8
          omega
        · have : p = 9 := by omega
          subst this
          have e : (128 : Nat) ^ 9 = 9223372036854775808 := by decide
          rw [e] at h2 ⊢
          omega
      by_cases hc : c < 128
      · rw [rdN_end hm hc]
        exact hb
      · rw [rdN_more hm hc]
        have e : c % 128 ≤ 127 := by omega
        have := Nat.mul_le_mul_right (128 ^ p) e
        exact ih (p + 1) _ (by omega) (by rw [Nat.pow_succ]; omega) (fun x hx => hs x (by simp [hx]))
    · rw [rdN_may (by simpa using hm)]
      simp only
      omega
theorem rdN_small (l : List Nat) (hs : small8 l) : (rdN l 0 0).1 < 18446744073709551616 := rdN_lt l 0 0 (by omega) (by simp) hs
theorem last_of {l : List (Nat × Nat)} (h : 0 < l.length) : ∃ x, l[l.length - 1]? = some x ∧ lastK l = some x.1 := by
  refine ⟨l[l.length - 1]'(by omega), List.getElem?_eq_getElem _, ?_⟩
  unfold lastK
  rw [List.getLast?_eq_getElem?, List.getElem?_eq_getElem (by omega)]
  rfl
set_option maxRecDepth 100000 in
set_option maxHeartbeats 4000000 in
theorem rd_pair {W : World} {R : Nat} {p : Option Addr} {bs : List Nat} {c i : Nat} (H : Rd W R p bs c i) (hp : ∀ b o, pB bs p = some ⟨b, o, none⟩ → b < W.heap.size) {pq : Option Addr} {l : List (Nat × Nat)} (HP : PairsAt W pq l) (hq : ∀ b o, pq = some ⟨b, o, none⟩ → b ≠ R) (cq : Nat) (hl : l.length ≤ 1000000000) :
    Calls Try.prog 54 #[.pointer (some ⟨R, 0, none⟩), .slice pq l.length cq] W fun e W' => e = .returned (.tuple #[.agg #[.int .u64 ((rdPr bs i (lastK l)).1.1 : Int), .int .u64 ((rdPr bs i (lastK l)).1.2 : Int)], .int .i64 ((rdPr bs i (lastK l)).2.1 : Int)]) ∧ Rd W' R p bs c (rdPr bs i (lastK l)).2.2 ∧ Chg (fun j => j = R) W W' := by
  have HI := keepH (PI.start H)
  have N1 := keepH (rd_number HI.out.rd)
  have c1 := HI.out.rd.c1
  have HPP := keepH (fun X (h : Chg (fun j => j = R) W X) => HP.chgF h (fun b o e x => hq b o e x))
  have HBP := keepH hp
  have HPS := keepH HP.small
  obtain ⟨r, hr⟩ : ∃ r, r = rdN (bs.drop i) 0 0 := ⟨_, rfl⟩
  obtain ⟨k, e1, u1⟩ := r
  have hk64 : k < 18446744073709551616 := by
    have := rdN_small (bs.drop i) (fun x hx => H.hb.small x (List.mem_of_mem_drop hx))
    rw [← hr] at this
    exact this
  rw [← hr] at N1
  have HR := keepH hr.symm
  have hn := H.hn
  simp only at N1
  clear H HP hr hp hq
  by_cases he1 : e1 = 0
  · subst he1
    by_cases hl0 : l.length = 0
    · have hln : ¬ (0 : Int) < (l.length : Int) := by omega
      have HLK : Hid (lastK l = none) := keepH (by rw [List.length_eq_zero_iff.1 hl0]; rfl)
      clear hl0
      obtain ⟨r2, hr2⟩ : ∃ r, r = rdN (bs.drop (i + u1)) 0 0 := ⟨_, rfl⟩
      obtain ⟨v, e2, u2⟩ := r2
      have HR2 := keepH hr2.symm
      clear hr2
      by_cases he2 : e2 = 0
      · subst he2
        have HPR : Hid (rdPr bs i (lastK l) = ((k, v), 0, i + u1 + u2)) := keepH (by unfold rdPr; rw [HR.out]; rw [HLK.out]; simp [badK]; simp [HR2.out])
        go_enter Try.func54, Try.ntmps54
        go_wp2_with (first
          | (go_at_call 53; refine N1.out.mono ?_; clear N1; rintro e W1 ⟨rfl, hR1, hC1⟩; have HI1 := keepH (HI.out.on hR1 hC1); clear hR1 hC1; have b0 := HI1.out.c0; have b1 := HI1.out.c1; have f0 := HI1.out.f0; have f1 := HI1.out.f1; have g1 := HI1.out.rd.free; have g0 := HI1.out.rd.c1; skip)
          | (go_at_call 53; have N2 := rd_number HI1.out.rd; rw [HR2.out] at N2; refine N2.mono ?_; clear N2; rintro e W2 ⟨rfl, hR2, hC2⟩; have HI2 := keepH (HI1.out.on hR2 hC2); clear hR2 hC2; have b0 := HI2.out.c0; have b1 := HI2.out.c1; have f0 := HI2.out.f0; have f1 := HI2.out.f1))
        obtain ⟨z3, z4⟩ := HI2.out.cells (.int .u64 (k : Int)) (.int .u64 (v : Int))
        try simp only [Int.natCast_add] at z3 z4
        refine bodyPost_ret (v := .tuple #[.agg #[.int .u64 (k : Int), .int .u64 (v : Int)], .int .i64 (0 : Int)]) (by simp [results, Try.results54, go_sem, z3, z4]) rfl ⟨by rw [HPR.out]; rfl, ?_⟩
        rw [HPR.out]
        exact HI2.out.fin HBP.out _ _
      · have t2 : ((e2 : Int) != 0) = true := by simp; omega
        have HPR : Hid (rdPr bs i (lastK l) = ((0, 0), e2, i + u1 + u2)) := keepH (by unfold rdPr; rw [HR.out]; rw [HLK.out]; simp [badK]; simp [HR2.out, he2])
        go_enter Try.func54, Try.ntmps54
        go_wp2_with (first
          | (go_at_call 53; refine N1.out.mono ?_; clear N1; rintro e W1 ⟨rfl, hR1, hC1⟩; have HI1 := keepH (HI.out.on hR1 hC1); clear hR1 hC1; have b0 := HI1.out.c0; have b1 := HI1.out.c1; have f0 := HI1.out.f0; have f1 := HI1.out.f1; have g1 := HI1.out.rd.free; have g0 := HI1.out.rd.c1; skip)
          | (go_at_call 53; have N2 := rd_number HI1.out.rd; rw [HR2.out] at N2; refine N2.mono ?_; clear N2; rintro e W2 ⟨rfl, hR2, hC2⟩; have HI2 := keepH (HI1.out.on hR2 hC2); clear hR2 hC2; have b0 := HI2.out.c0; have b1 := HI2.out.c1; have f0 := HI2.out.f0; have f1 := HI2.out.f1))
        obtain ⟨z3, z4⟩ := HI2.out.cells (.int .u64 (0 : Int)) (.int .u64 (0 : Int))
        try simp only [Int.natCast_add] at z3 z4
        refine bodyPost_ret (v := .tuple #[.agg #[.int .u64 (0 : Int), .int .u64 (0 : Int)], .int .i64 (e2 : Int)]) (by simp [results, Try.results54, go_sem, z3, z4]) rfl ⟨by rw [HPR.out]; rfl, ?_⟩
        rw [HPR.out]
        exact HI2.out.fin HBP.out _ _
    · obtain ⟨⟨lk, lv⟩, hx, hlk⟩ := last_of (show 0 < l.length by omega)
      obtain ⟨n, hln⟩ : ∃ n, l.length = n + 1 := ⟨l.length - 1, by omega⟩
      rw [hln] at hx
      rw [Nat.add_sub_cancel] at hx
      have HLX := keepH hx
      have HLK := keepH hlk
      have hlk64 : lk < 18446744073709551616 := (HPS.out _ (List.mem_of_getElem? hx)).1
      have hl' : n + 1 ≤ 1000000000 := by omega
      clear hx hlk hl0
      have hcnt : (0 : Int) < ((n + 1 : Nat) : Int) := by omega
      have HLN := keepH hln
      rw [hln]
      simp only at HLK
      by_cases hk0 : k = 0
      · subst hk0
        have HPR : Hid (rdPr bs i (lastK l) = ((0, 0), 271, i)) := keepH (by unfold rdPr; rw [HR.out]; rw [HLK.out]; simp [badK])
        go_enter Try.func54, Try.ntmps54
        go_wp2_with (first
          | (go_at_call 53; refine N1.out.mono ?_; clear N1; rintro e W1 ⟨rfl, hR1, hC1⟩; have HI1 := keepH (HI.out.on hR1 hC1); clear hR1 hC1; have b0 := HI1.out.c0; have b1 := HI1.out.c1; have f0 := HI1.out.f0; have f1 := HI1.out.f1; have g1 := HI1.out.rd.free; have g0 := HI1.out.rd.c1; obtain ⟨bq, oq, rfl, hbq, hcq⟩ := (HPP.out _ HI1.out.ch).resolve_left (by intro e; rw [e] at hln; simp at hln); obtain ⟨_, _, d0, _⟩ := hcq _ _ _ HLX.out; clear hcq; obtain ⟨z1, z2⟩ := HI1.out.rd.set (Chg.refl (fun _ => False) W1) i (by have := HI1.out.rd.hi; omega); have HZ := keepH (HI1.out.on z1 z2); clear z1 z2; have b0 := HZ.out.c0; have b1 := HZ.out.c1; have f0 := HZ.out.f0; have f1 := HZ.out.f1)
          | (go_at_call 53; have N2 := rd_number HI1.out.rd; rw [HR2.out] at N2; refine N2.mono ?_; clear N2; rintro e W2 ⟨rfl, hR2, hC2⟩; have HI2 := keepH (HI1.out.on hR2 hC2); clear hR2 hC2; have b0 := HI2.out.c0; have b1 := HI2.out.c1; have f0 := HI2.out.f0; have f1 := HI2.out.f1))
        obtain ⟨z3, z4⟩ := HZ.out.cells (.int .u64 (0 : Int)) (.int .u64 (0 : Int))
        try simp only [Int.natCast_add] at z3 z4
        refine bodyPost_ret (v := .tuple #[.agg #[.int .u64 (0 : Int), .int .u64 (0 : Int)], .int .i64 (271 : Int)]) (by simp [results, Try.results54, go_sem, z3, z4]) rfl ⟨by rw [HPR.out]; rfl, ?_⟩
        rw [HPR.out]
        exact HZ.out.fin HBP.out _ _
      · have t3 : ((k : Int) == 0) = false := by simp; omega
        by_cases hkm : 18446744073709551615 - lk < k
        · have t4 : decide ((18446744073709551615 : Int) - (lk : Int) < (k : Int)) = true := decide_eq_true (by omega)
          have HPR : Hid (rdPr bs i (lastK l) = ((0, 0), 271, i)) := keepH (by unfold rdPr; rw [HR.out]; rw [HLK.out]; simp [badK, hkm])
          go_enter Try.func54, Try.ntmps54
          go_wp2_with (first
            | (go_at_call 53; refine N1.out.mono ?_; clear N1; rintro e W1 ⟨rfl, hR1, hC1⟩; have HI1 := keepH (HI.out.on hR1 hC1); clear hR1 hC1; have b0 := HI1.out.c0; have b1 := HI1.out.c1; have f0 := HI1.out.f0; have f1 := HI1.out.f1; have g1 := HI1.out.rd.free; have g0 := HI1.out.rd.c1; obtain ⟨bq, oq, rfl, hbq, hcq⟩ := (HPP.out _ HI1.out.ch).resolve_left (by intro e; rw [e] at hln; simp at hln); obtain ⟨_, _, d0, _⟩ := hcq _ _ _ HLX.out; clear hcq; obtain ⟨z1, z2⟩ := HI1.out.rd.set (Chg.refl (fun _ => False) W1) i (by have := HI1.out.rd.hi; omega); have HZ := keepH (HI1.out.on z1 z2); clear z1 z2; have b0 := HZ.out.c0; have b1 := HZ.out.c1; have f0 := HZ.out.f0; have f1 := HZ.out.f1)
            | (go_at_call 53; have N2 := rd_number HI1.out.rd; rw [HR2.out] at N2; refine N2.mono ?_; clear N2; rintro e W2 ⟨rfl, hR2, hC2⟩; have HI2 := keepH (HI1.out.on hR2 hC2); clear hR2 hC2; have b0 := HI2.out.c0; have b1 := HI2.out.c1; have f0 := HI2.out.f0; have f1 := HI2.out.f1))
          obtain ⟨z3, z4⟩ := HZ.out.cells (.int .u64 (0 : Int)) (.int .u64 (0 : Int))
          try simp only [Int.natCast_add] at z3 z4
          refine bodyPost_ret (v := .tuple #[.agg #[.int .u64 (0 : Int), .int .u64 (0 : Int)], .int .i64 (271 : Int)]) (by simp [results, Try.results54, go_sem, z3, z4]) rfl ⟨by rw [HPR.out]; rfl, ?_⟩
          rw [HPR.out]
          exact HZ.out.fin HBP.out _ _
        · have t4 : decide ((18446744073709551615 : Int) - (lk : Int) < (k : Int)) = false := decide_eq_false (by omega)
          obtain ⟨r2, hr2⟩ : ∃ r, r = rdN (bs.drop (i + u1)) 0 0 := ⟨_, rfl⟩
          obtain ⟨v, e2, u2⟩ := r2
          have HR2 := keepH hr2.symm
          clear hr2
          by_cases he2 : e2 = 0
          · subst he2
            have HPR : Hid (rdPr bs i (lastK l) = ((k + lk, v), 0, i + u1 + u2)) := keepH (by unfold rdPr; rw [HR.out]; rw [HLK.out]; simp [badK, hk0, hkm]; simp [HR2.out])
            go_enter Try.func54, Try.ntmps54
            go_wp2_with (first
              | (go_at_call 53; refine N1.out.mono ?_; clear N1; rintro e W1 ⟨rfl, hR1, hC1⟩; have HI1 := keepH (HI.out.on hR1 hC1); clear hR1 hC1; have b0 := HI1.out.c0; have b1 := HI1.out.c1; have f0 := HI1.out.f0; have f1 := HI1.out.f1; have g1 := HI1.out.rd.free; have g0 := HI1.out.rd.c1; obtain ⟨bq, oq, rfl, hbq, hcq⟩ := (HPP.out _ HI1.out.ch).resolve_left (by intro e; rw [e] at hln; simp at hln); obtain ⟨_, _, d0, _⟩ := hcq _ _ _ HLX.out; clear hcq)
              | (go_at_call 53; have N2 := rd_number HI1.out.rd; rw [HR2.out] at N2; refine N2.mono ?_; clear N2; rintro e W2 ⟨rfl, hR2, hC2⟩; have HI2 := keepH (HI1.out.on hR2 hC2); clear hR2 hC2; have b0 := HI2.out.c0; have b1 := HI2.out.c1; have f0 := HI2.out.f0; have f1 := HI2.out.f1))
            obtain ⟨z3, z4⟩ := HI2.out.cells (.int .u64 ((k + lk : Nat) : Int)) (.int .u64 (v : Int))
            try simp only [Int.natCast_add] at z3 z4
            refine bodyPost_ret (v := .tuple #[.agg #[.int .u64 ((k + lk : Nat) : Int), .int .u64 (v : Int)], .int .i64 (0 : Int)]) (by simp [results, Try.results54, go_sem, z3, z4]) rfl ⟨by rw [HPR.out]; rfl, ?_⟩
            rw [HPR.out]
            exact HI2.out.fin HBP.out _ _
          · have t2 : ((e2 : Int) != 0) = true := by simp; omega
            have HPR : Hid (rdPr bs i (lastK l) = ((0, 0), e2, i + u1 + u2)) := keepH (by unfold rdPr; rw [HR.out]; rw [HLK.out]; simp [badK, hk0, hkm]; simp [HR2.out, he2])
            go_enter Try.func54, Try.ntmps54
            go_wp2_with (first
              | (go_at_call 53; refine N1.out.mono ?_; clear N1; rintro e W1 ⟨rfl, hR1, hC1⟩; have HI1 := keepH (HI.out.on hR1 hC1); clear hR1 hC1; have b0 := HI1.out.c0; have b1 := HI1.out.c1; have f0 := HI1.out.f0; have f1 := HI1.out.f1; have g1 := HI1.out.rd.free; have g0 := HI1.out.rd.c1; obtain ⟨bq, oq, rfl, hbq, hcq⟩ := (HPP.out _ HI1.out.ch).resolve_left (by intro e; rw [e] at hln; simp at hln); obtain ⟨_, _, d0, _⟩ := hcq _ _ _ HLX.out; clear hcq)
              | (go_at_call 53; have N2 := rd_number HI1.out.rd; rw [HR2.out] at N2; refine N2.mono ?_; clear N2; rintro e W2 ⟨rfl, hR2, hC2⟩; have HI2 := keepH (HI1.out.on hR2 hC2); clear hR2 hC2; have b0 := HI2.out.c0; have b1 := HI2.out.c1; have f0 := HI2.out.f0; have f1 := HI2.out.f1))
            obtain ⟨z3, z4⟩ := HI2.out.cells (.int .u64 (0 : Int)) (.int .u64 (0 : Int))
            try simp only [Int.natCast_add] at z3 z4
            refine bodyPost_ret (v := .tuple #[.agg #[.int .u64 (0 : Int), .int .u64 (0 : Int)], .int .i64 (e2 : Int)]) (by simp [results, Try.results54, go_sem, z3, z4]) rfl ⟨by rw [HPR.out]; rfl, ?_⟩
            rw [HPR.out]
            exact HI2.out.fin HBP.out _ _
  · have t1 : ((e1 : Int) != 0) = true := by simp; omega
    have HPR : Hid (rdPr bs i (lastK l) = ((0, 0), e1, i + u1)) := keepH (by unfold rdPr; rw [HR.out]; simp [he1])
    go_enter Try.func54, Try.ntmps54
    go_wp2_with (first
      | (go_at_call 53; refine N1.out.mono ?_; clear N1; rintro e W1 ⟨rfl, hR1, hC1⟩; have HI1 := keepH (HI.out.on hR1 hC1); clear hR1 hC1; have b0 := HI1.out.c0; have b1 := HI1.out.c1; have f0 := HI1.out.f0; have f1 := HI1.out.f1; have g1 := HI1.out.rd.free; have g0 := HI1.out.rd.c1; skip)
      | (go_at_call 53; have N2 := rd_number HI1.out.rd; rw [HR2.out] at N2; refine N2.mono ?_; clear N2; rintro e W2 ⟨rfl, hR2, hC2⟩; have HI2 := keepH (HI1.out.on hR2 hC2); clear hR2 hC2; have b0 := HI2.out.c0; have b1 := HI2.out.c1; have f0 := HI2.out.f0; have f1 := HI2.out.f1))
    obtain ⟨z3, z4⟩ := HI1.out.cells (.int .u64 (0 : Int)) (.int .u64 (0 : Int))
    try simp only [Int.natCast_add] at z3 z4
    refine bodyPost_ret (v := .tuple #[.agg #[.int .u64 (0 : Int), .int .u64 (0 : Int)], .int .i64 (e1 : Int)]) (by simp [results, Try.results54, go_sem, z3, z4]) rfl ⟨by rw [HPR.out]; rfl, ?_⟩
    rw [HPR.out]
    exact HI1.out.fin HBP.out _ _
end Go.Proofs.Ytbmfjcdafjknaab
