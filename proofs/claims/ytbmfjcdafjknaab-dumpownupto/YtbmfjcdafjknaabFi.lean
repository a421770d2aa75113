/- DumpHurt, walked. -/
import Derived.Test.YtbmfjcdafjknaabFh
import Derived.Laws.BitsAllLaws
namespace Go.Proofs.Ytbmfjcdafjknaab
open Go.RowKit Go.Joins Go.Shelf
set_option linter.unusedVariables false

theorem below_ofH {W X : World} (h : Chg (fun _ => False) W X) : Below W.heap.size W X := ⟨h.os, h.tape, h.output, h.size, fun k hk => h.block k hk (fun x => x)⟩
theorem xor_is {q y : Nat} : q ^^^ y = q ↔ y = 0 := by
  constructor
  · intro h
    have := congrArg (fun z => q ^^^ z) h
    simpa [← Nat.xor_assoc] using this
  · intro h; rw [h, Nat.xor_zero]
/-- Bytes of one's own, opened: the block, and what may be done with it. -/
theorem brow_own {W : World} {B : Nat} {v : Value} {l : List Nat} (h : BRow W B v l) (h0 : l ≠ []) : ∃ g cap cur, v = .slice (some ⟨g, 0, none⟩) l.length cap ∧ B ≤ g ∧ W.heap[g]? = some (.cells cur 5 (0, 0)) ∧ BytesAt W (some ⟨g, 0, none⟩) l ∧ (l.length ≤ cap ∧ cap ≤ 9223372036854775807) := by
  obtain ⟨p, c, hv, hat, _⟩ := BRow.slice h
  rcases h.1.2 with ⟨z, z0⟩ | ⟨g, cap, cur, z, hB, hg, hcap, hmax, _⟩
  · exact absurd (List.length_eq_zero_iff.1 z0) h0
  · rw [hv] at z
    injection z with z1 z2 z3
    subst z1 z3
    unfold maxLen at hmax
    exact ⟨g, c, cur, hv, hB, hg, hat, hcap, hmax⟩
theorem set_bytes {W X : World} {g : Nat} {cur : Array Value} {l : List Nat} {k y : Nat} (hg : W.heap[g]? = some (.cells cur 5 (0, 0))) (hat : BytesAt W (some ⟨g, 0, none⟩) l) (h0 : l ≠ []) (hk : k < l.length) (hy : y < 256) (hX : Chg (fun _ => False) W X) : BytesAt (X.setCell ⟨g, k, none⟩ (.int .u8 (y : Int))) (some ⟨g, 0, none⟩) (l.set k y) := by
  have hc : Chg (fun j => j = g) W (X.setCell ⟨g, k, none⟩ (.int .u8 (y : Int))) := Chg.setCell (F := fun j => j = g) (p := ⟨g, k, none⟩) (hX.mono (fun _ _ x => x.elim)) (fun _ => rfl) _
  have hX2 := hat.chg hX (fun _ _ _ x => x)
  obtain ⟨bk, off, e, hb, h⟩ := hX2.resolve_left h0
  injection e with e
  injection e with e1 e2
  subst e1 e2
  refine .inr ⟨g, 0, rfl, by simp [World.setCell]; exact hb, fun i x hi => ?_⟩
  by_cases e : i = k
  · subst e
    rw [List.getElem?_set_self hk] at hi
    injection hi with hi
    subst hi
    refine ⟨hy, ?_⟩
    obtain ⟨q, hq⟩ : ∃ q, l[i]? = some q := ⟨l[i], List.getElem?_eq_getElem hk⟩
    have := (h i q hq).2
    simp only [Nat.zero_add] at this ⊢
    exact World.cell?_setCell_same' _ _ _ (by rw [this]; rfl)
  · rw [List.getElem?_set_ne (fun x => e x.symm)] at hi
    refine ⟨(h i x hi).1, ?_⟩
    have := (h i x hi).2
    simp only [Nat.zero_add] at this ⊢
    exact (World.cell?_setCell_other _ (a := ⟨g, k, none⟩) (b := ⟨g, i, none⟩) (v := .int .u8 (y : Int)) (by intro z; injection z with z1 z2; omega)).trans this
theorem cell_g {W : World} {g k q : Nat} {l : List Nat} (hat : BytesAt W (some ⟨g, 0, none⟩) l) (h0 : l ≠ []) (hq : l[k]? = some q) : W.cell? ⟨g, k, none⟩ = some (.int .u8 (q : Int)) := by
  obtain ⟨bk, off, e, hb, h⟩ := hat.resolve_left h0
  injection e with e
  injection e with e1 e2
  subst e1 e2
  simpa using (h k q hq).2
theorem below_set {W X : World} {g k : Nat} {v : Value} (h : Below W.heap.size W X) (hg : W.heap.size ≤ g) : Below W.heap.size W (X.setCell ⟨g, k, none⟩ v) :=
  chg_belowE (Chg.setCell (F := fun j => W.heap.size ≤ j) (p := ⟨g, k, none⟩) (chg_below h) (fun _ => hg) v)
theorem int_zz (n : Nat) : ((n : Int) == 0) = decide (n = 0) := by
  by_cases h : n = 0
  · subst h; rfl
  · simp [h]
set_option maxRecDepth 100000 in
set_option maxHeartbeats 4000000 in
theorem hurt_walk {W : World} {pa : Option Addr} {la : List (Nat × Nat)} (HA : PairsAt W pa la) {ca : Nat} (hla : la.length ≤ 1048576) (t : Int) (ht : -9223372036854775808 ≤ t ∧ t < 9223372036854775808) (y : Nat) (hy : y < 256) :
    Calls Try.prog 3 #[.slice pa la.length ca, .int .i64 t, .int .u8 (y : Int)] W fun e W' => e = .returned (.bool true) ∧ Below W.heap.size W W' := by
  have HAA : Hid (∀ X, Below W.heap.size W X → PairsAt X pa la) := keepH (fun X h => HA.chgF (below_chgE h) (fun _ _ _ x => x))
  by_cases ra : riseB la = true
  · have E1 := keepH (enc_yes HA ca (by omega) ra)
    have HNE : Hid (encL la ≠ []) := keepH (by have := encL_geH la; intro e; rw [e] at this; simp at this)
    have hn9 : 9 ≤ (encL la).length := by have := encL_geH la; omega
    have hnM := encL_leH HA.small (show la.length ≤ 10000000 by omega)
    obtain ⟨k, hk⟩ : ∃ k : Nat, (k : Int) = (t % 18446744073709551616) % ((encL la).length : Int) := ⟨((t % 18446744073709551616) % ((encL la).length : Int)).toNat, by have := Int.emod_nonneg (t % 18446744073709551616) (show ((encL la).length : Int) ≠ 0 by omega); omega⟩
    have hkn : k < (encL la).length := by have := Int.emod_lt_of_pos (t % 18446744073709551616) (show (0 : Int) < ((encL la).length : Int) by omega); omega
    have HSB := keepH (fun h8 => short_bad ra HA.small (by omega) h8 hkn)
    have HOB := keepH (fun h8 q y by_ hq hy hby => other_bad ra HA.small (by omega) h8 (k := k) (q := q) (y := y) (by_ := by_) hq hy hby)
    obtain ⟨bs, hbs⟩ : ∃ bs, bs = encL la := ⟨_, rfl⟩
    rw [← hbs] at E1 HNE hn9 hnM hk hkn HSB HOB
    obtain ⟨q, hq⟩ : ∃ q, bs[k]? = some q := ⟨bs[k]'hkn, List.getElem?_eq_getElem _⟩
    have HQ := keepH hq
    clear HA hbs ra hq
    have q9 : ¬ (bs.length : Int) < 9 := by omega
    have hm : (IntKind.u64.wrap t).tmod (bs.length : Int) = (k : Int) := by
      rw [IntKind.wrap_u64, Int.tmod_eq_emod_of_nonneg (Int.emod_nonneg _ (by decide))]
      exact hk.symm
    have hw : wrap64 ((k : Int)) = (k : Int) := by unfold wrap64; omega
    have hkb : (k : Int) < (bs.length : Int) := by omega
    have HD1 : Hid (∀ (X : World) (g cap : Nat), BytesAt X (some ⟨g, 0, none⟩) bs → (bs.length ≤ cap ∧ cap ≤ 9223372036854775807) → Calls Try.prog 7 #[.slice (some ⟨g, 0, none⟩) k cap] X fun e W' => (∃ (e1 j : Nat) (pq : Option Addr) (cq : Nat), e1 ≠ 0 ∧ e = .returned (.tuple #[.slice pq 0 cq, .int .i64 (e1 : Int), .int .i64 (j : Int)])) ∧ Below X.heap.size X W') := keepH (fun X g cap hat hc => by
      have l1 : (bs.take k).length = k := by rw [List.length_take]; omega
      have h0 := HSB.out hat.small
      have := decode_any (hat.take k) (c := cap) (by rw [l1]; omega) (by rw [l1]; omega)
      rw [l1, rdA_noneH _ h0] at this
      refine this.mono ?_
      rintro e W' ⟨⟨pq, cq, rfl, _⟩, hb⟩
      exact ⟨⟨_, _, pq, cq, h0, rfl⟩, hb⟩)
    have HD2 : Hid (∀ (X : World) (g cap z : Nat), BytesAt X (some ⟨g, 0, none⟩) (bs.set k z) → (bs.length ≤ cap ∧ cap ≤ 9223372036854775807) → Calls Try.prog 7 #[.slice (some ⟨g, 0, none⟩) bs.length cap] X fun e W' => (∃ pq cq, e = .returned (.tuple #[.slice pq (rdA (bs.set k z)).1.length cq, .int .i64 ((rdA (bs.set k z)).2.1 : Int), .int .i64 ((rdA (bs.set k z)).2.2 : Int)]) ∧ PairsAt W' pq (rdA (bs.set k z)).1) ∧ Below X.heap.size X W') := keepH (fun X g cap z hat hc => by
      have := decode_any hat (c := cap) (by rw [List.length_set]; exact hc) (by rw [List.length_set]; omega)
      rw [List.length_set] at this
      refine this.mono ?_
      rintro e W' ⟨⟨pq, cq, rfl, ha, _⟩, hb⟩
      exact ⟨⟨pq, cq, rfl, ha⟩, hb⟩)
    have HQ8 : Hid (small8 bs → q < 256) := keepH (fun h => h q (List.mem_of_getElem? HQ.out))
    obtain ⟨z, hz⟩ : ∃ z, z = q ^^^ y := ⟨_, rfl⟩
    have HZ := keepH hz
    have HLL : Hid (small8 bs → z < 256 → (rdA (bs.set k z)).1.length ≤ bs.length) := keepH (fun h8 hz => by
      by_cases h : (rdA (bs.set k z)).2.1 = 0
      · have a := encL_geH (rdA (bs.set k z)).1
        rw [(enc_dec (fun x hx => by
          rcases List.mem_or_eq_of_mem_set hx with q | q
          · exact h8 x q
          · rw [q]; exact hz) h).2.2, List.length_set] at a
        omega
      · rw [rdA_noneH _ h]; simp)
    have HOB2 : Hid (small8 bs → z < 256 → decide (y = 0) = (decide ((rdA (bs.set k z)).2.1 = 0) && decide ((rdA (bs.set k z)).1 = la))) := keepH (fun h8 hz8 => HOB.out h8 q z y HQ.out hz8 (by rw [hz]; exact xor_is))
    obtain ⟨r, hr⟩ : ∃ r, r = rdA (bs.set k z) := ⟨_, rfl⟩
    obtain ⟨l2, e2, j2⟩ := r
    have HR := keepH hr.symm
    rw [← hr] at HLL HOB2
    simp only at HLL HOB2
    clear HOB HSB hz hk hr
    by_cases he2 : e2 = 0
    · subst he2
      go_enter Try.func3, Try.ntmps3
      go_wp2_with (first
        | (go_at_call 5; refine E1.out.mono ?_; clear E1; rintro e W1 ⟨⟨v1, rfl, r1⟩, hB⟩; obtain ⟨g, cap, cur, hv1, hgB, hg, hat1, hc1⟩ := brow_own r1 HNE.out; subst hv1; have B1 := keepH hB; have HG := keepH hg; have HAT := keepH hat1; have H8 := keepH hat1.small; have hcut := cut_to (some ⟨g, 0, none⟩) bs.length cap k (by omega); have hq8 := HQ8.out hat1.small; have hz8 : z < 256 := (by rw [HZ.out]; exact Nat.xor_lt_two_pow (n := 8) hq8 hy); have hx : bits .xor .u8 (q : Int) (y : Int) = (z : Int) := (by rw [HZ.out]; exact u8_xor_nat q y hq8 hy); have HOZ := keepH (HOB2.out hat1.small hz8); have HLZ := keepH (HLL.out hat1.small hz8); clear r1 hat1 hB hg)
        | (go_at_call 7; refine (HD1.out _ _ _ HAT.out hc1).mono ?_; clear HD1; rintro e W2 ⟨⟨e1, j1, p1, c1, hne, rfl⟩, hB⟩; have t1 : ((e1 : Int) == 0) = false := (by simp; omega); have C2 := keepH (below_chgE hB); have B2 := keepH (below_trans B1.out hB); have HG2 := keepH ((hB.block g (lt_of HG.out)).trans HG.out); have HAT2 := keepH (HAT.out.chg (below_chgE hB) (fun _ _ _ x => x)); have d0 := cell_g HAT2.out HNE.out HQ.out; have f0 := free_of HG2.out k; clear hB HAT)
        | (go_at_call 7; have D2 := HD2.out _ g cap z (set_bytes HG2.out HAT2.out HNE.out hkn hz8 (Chg.refl (fun _ => False) _)) hc1; rw [HR.out] at D2; refine D2.mono ?_; clear D2; rintro e W3 ⟨⟨p3, c3, rfl, hat3⟩, hB⟩; have H3 := keepH hat3; have B3 := keepH (below_trans (below_set B2.out hgB) hB); clear hat3 hB)
        | (go_at_call 6; refine (live_27 _).mono ?_; rintro e W4 ⟨rfl, hB⟩; have H4 := keepH (H3.out.chgF (below_chgE hB) (fun _ _ _ x => x)); have B4 := keepH (below_trans B3.out hB); clear hB; obtain ⟨b1, hb1⟩ : ∃ b1, b1 = decide (y = 0) := ⟨_, rfl⟩; have tz : ((y : Int) == 0) = b1 := (by rw [hb1]; exact int_zz y); have tb : (b1 == b1) = true := (by simp); have HBZ : Hid (b1 = decide (l2 = la)) := keepH (by rw [hb1, HOZ.out]; simp); clear hb1)
        | (go_at_call 8; refine (r_pairs _ _ _ _ l2 la _ H4.out (HAA.out _ B4.out) (by have := HLZ.out; omega) (by omega)).mono ?_; rintro e W5 ⟨rfl, hC⟩; rw [← HBZ.out]; have B5 := keepH (below_trans B4.out (below_ofH hC)); clear hC))
      go_ret
      exact ⟨rfl, B5.out⟩
    · have t2 : ((e2 : Int) == 0) = false := by simp; omega
      go_enter Try.func3, Try.ntmps3
      go_wp2_with (first
        | (go_at_call 5; refine E1.out.mono ?_; clear E1; rintro e W1 ⟨⟨v1, rfl, r1⟩, hB⟩; obtain ⟨g, cap, cur, hv1, hgB, hg, hat1, hc1⟩ := brow_own r1 HNE.out; subst hv1; have B1 := keepH hB; have HG := keepH hg; have HAT := keepH hat1; have H8 := keepH hat1.small; have hcut := cut_to (some ⟨g, 0, none⟩) bs.length cap k (by omega); have hq8 := HQ8.out hat1.small; have hz8 : z < 256 := (by rw [HZ.out]; exact Nat.xor_lt_two_pow (n := 8) hq8 hy); have hx : bits .xor .u8 (q : Int) (y : Int) = (z : Int) := (by rw [HZ.out]; exact u8_xor_nat q y hq8 hy); have HOZ := keepH (HOB2.out hat1.small hz8); have HLZ := keepH (HLL.out hat1.small hz8); clear r1 hat1 hB hg)
        | (go_at_call 7; refine (HD1.out _ _ _ HAT.out hc1).mono ?_; clear HD1; rintro e W2 ⟨⟨e1, j1, p1, c1, hne, rfl⟩, hB⟩; have t1 : ((e1 : Int) == 0) = false := (by simp; omega); have C2 := keepH (below_chgE hB); have B2 := keepH (below_trans B1.out hB); have HG2 := keepH ((hB.block g (lt_of HG.out)).trans HG.out); have HAT2 := keepH (HAT.out.chg (below_chgE hB) (fun _ _ _ x => x)); have d0 := cell_g HAT2.out HNE.out HQ.out; have f0 := free_of HG2.out k; clear hB HAT)
        | (go_at_call 7; have D2 := HD2.out _ g cap z (set_bytes HG2.out HAT2.out HNE.out hkn hz8 (Chg.refl (fun _ => False) _)) hc1; rw [HR.out] at D2; refine D2.mono ?_; clear D2; rintro e W3 ⟨⟨p3, c3, rfl, hat3⟩, hB⟩; have H3 := keepH hat3; have B3 := keepH (below_trans (below_set B2.out hgB) hB); clear hat3 hB)
        | (go_at_call 6; refine (live_27 _).mono ?_; rintro e W4 ⟨rfl, hB⟩; have H4 := keepH (H3.out.chgF (below_chgE hB) (fun _ _ _ x => x)); have B4 := keepH (below_trans B3.out hB); clear hB; have tz : ((y : Int) == 0) = false := (by rw [int_zz, HOZ.out]; simp [he2])))
      go_ret
      exact ⟨rfl, B4.out⟩
  · have E1 := keepH (enc_no HA ca (by omega) (by simpa using ra))
    clear HA ra
    go_enter Try.func3, Try.ntmps3
    go_wp2_with (first
      | (go_at_call 5; refine E1.out.mono ?_; clear E1; rintro e W1 ⟨rfl, hB⟩; have B1 := keepH hB; clear hB)
      | (go_at_call 6; refine (live_27 _).mono ?_; rintro e W9 ⟨rfl, hB⟩; have B9 := keepH (below_trans B1.out hB); clear hB))
    go_ret
    exact ⟨rfl, B9.out⟩
end Go.Proofs.Ytbmfjcdafjknaab
