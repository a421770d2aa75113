/- The document's number. -/
import Derived.Test.YtbmfjcdafjknaaaFa
import Derived.Laws.OwnMore
import Derived.Test.YtbmfjcdafjknaaaEe
namespace Go.Proofs.Ytbmfjcdafjknaaa
open Go.RowKit Go.Shelf
set_option linter.unusedVariables false

/-- What stays while the document reads a number. -/
structure DI (bs : List Nat) (i k a : Nat) : Prop where
  lt : a < 128 ^ k
  eq : rdN (bs.drop i) 0 0 = add3 k (rdN (bs.drop (i + k)) k a)
theorem DI.more {bs : List Nat} {i k a q m : Nat} (h : DI bs i k a) (hmk : m = i + k) (hq : bs[m]? = some q) (hm : mayS q k = true) (h1 : ¬ q < 128) : DI bs i (k + 1) (a + q % 128 * 128 ^ k) := by
  subst hmk
  refine ⟨?_, ?_⟩
  · have := h.lt
    rw [Nat.pow_succ]
    have e : q % 128 ≤ 127 := by omega
    have := Nat.mul_le_mul_right (128 ^ k) e
    omega
  · rw [h.eq, drop_at hq, rdN_more hm h1]
    simp [add3, Nat.add_assoc, Nat.add_comm 1 k]
theorem DI.fin {bs : List Nat} {i k a q m : Nat} (h : DI bs i k a) (hmk : m = i + k) (hq : bs[m]? = some q) (hm : mayS q k = true) (h1 : q < 128) : rdN (bs.drop i) 0 0 = (a + q % 128 * 128 ^ k, 0, k + 1) := by
  subst hmk
  rw [h.eq, drop_at hq, rdN_end hm h1]
  simp [add3, Nat.add_comm]
theorem DI.bad {bs : List Nat} {i k a q m : Nat} (h : DI bs i k a) (hmk : m = i + k) (hq : bs[m]? = some q) (hm : mayS q k = false) : rdN (bs.drop i) 0 0 = (a, 271, k) := by
  subst hmk
  rw [h.eq, drop_at hq, rdN_may hm]
  simp [add3]
theorem DI.short {bs : List Nat} {i k a : Nat} (h : DI bs i k a) (hq : i + k = bs.length) : rdN (bs.drop i) 0 0 = (a, 270, k) := by
  rw [h.eq, List.drop_eq_nil_of_le (by omega)]
  simp [add3, rdN]
theorem shift_val {a q k : Nat} (ha : a < 128 ^ k) (hk : k ≤ 9) (hm : mayS q k = true) : IntKind.u64.wrap ((q : Int) % 128 * 2 ^ (7 * k)) = ((q % 128 * 128 ^ k : Nat) : Int) ∧ a + q % 128 * 128 ^ k < 18446744073709551616 := by
  have p7 : 2 ^ (7 * k) = 128 ^ k := by rw [Nat.pow_mul]
  unfold mayS at hm
  simp only [Bool.and_eq_true, Bool.or_eq_true, decide_eq_true_eq] at hm
  have hb : a + q % 128 * 128 ^ k < 18446744073709551616 := by
    by_cases h9 : k < 9
    · have h8 : 128 ^ k ≤ 128 ^ 8 := Nat.pow_le_pow_right (by decide) (by omega)
      have := Nat.mul_le_mul (show q % 128 ≤ 127 by omega) h8
      omega
    · have : k = 9 := by omega
      subst this
      have : q ≤ 1 := by omega
      have e : (128 : Nat) ^ 9 = 9223372036854775808 := by decide
      rw [e] at ha ⊢
      omega
  have e1 : ((q : Int) % 128 * 2 ^ (7 * k)) = ((q % 128 * 128 ^ k : Nat) : Int) := by
    rw [← p7]
    simp [Int.natCast_pow]
  refine ⟨?_, hb⟩
  rw [e1, IntKind.wrap_u64, Int.emod_eq_of_lt (by omega) (by omega)]
theorem add_shift {a q k : Nat} (ha : a < 128 ^ k) (hk : k ≤ 9) (hm : mayS q k = true) : IntKind.u64.wrap ((a : Int) + IntKind.u64.wrap ((q : Int) % 128 * 2 ^ (7 * k))) = ((a + q % 128 * 128 ^ k : Nat) : Int) := by
  obtain ⟨h1, h2⟩ := shift_val ha hk hm
  rw [h1, IntKind.wrap_u64, Int.emod_eq_of_lt (by omega) (by omega)]
  omega
/-- What the document's number tells. -/
def numV (bs : List Nat) (i : Nat) : Value := .tuple #[.int .u64 ((if (rdN (bs.drop i) 0 0).2.1 = 0 then (rdN (bs.drop i) 0 0).1 else 0 : Nat) : Int), .int .i64 ((i + (rdN (bs.drop i) 0 0).2.2 : Nat) : Int), .int .i64 ((rdN (bs.drop i) 0 0).2.1 : Int)]
theorem three_v {a b c a' b' c' : Int} (h1 : a = a') (h2 : b = b') (h3 : c = c') : Ending.returned (.tuple #[.int .u64 a, .int .i64 b, .int .i64 c]) = .returned (.tuple #[.int .u64 a', .int .i64 b', .int .i64 c']) := by rw [h1, h2, h3]
set_option maxRecDepth 100000 in
set_option maxHeartbeats 4000000 in
theorem e_number {W : World} {p : Option Addr} {bs : List Nat} (H : BytesAt W p bs) (c i : Nat) (hi : i ≤ bs.length) (hn : bs.length ≤ 1000000000) :
    Calls Try.prog 43 #[.slice p bs.length c, .int .i64 (i : Int)] W fun e W' => e = .returned (numV bs i) ∧ W' = W := by
  have HH := keepH H
  clear H
  go_enter Try.func43, Try.ntmps43
  go_wp2_with fail
  go_loopw [7, 8] (fun v kk wr => ∃ k a : Nat, v = .int .u64 (a : Int) ∧ kk = .int .i64 (k : Int) ∧ k ≤ 9 ∧ i + k ≤ bs.length ∧ wr = W ∧ Hid (DI bs i k a)) (fun _ kk _ => bs.length + 1 - i - (intOf kk).toNat)
  case atStart => exact ⟨0, 0, rfl, rfl, by omega, by omega, rfl, keepH ⟨by simp, by simp [add3]⟩⟩
  case round =>
    obtain ⟨k, a, rfl, rfl, hk, hik, rfl, HX⟩ := hrel
    obtain ⟨m, hm⟩ : ∃ m, m = i + k := ⟨_, rfl⟩
    have hadd : ((i : Int) + (k : Int)) = (m : Int) := by omega
    have HMK := keepH hm
    by_cases he : m = bs.length
    · have t1 : (bs.length : Int) ≤ (m : Int) := by omega
      have HQ := keepH he
      clear he hm
      go_wp2_with fail
      go_ret3
      unfold numV
      rw [HX.out.short (by rw [← HMK.out]; exact HQ.out)]
      have h1 := HMK.out
      have h2 := HQ.out
      exact ⟨three_v rfl (by dsimp only; omega) rfl, rfl⟩
    · have hlt : m < bs.length := by omega
      have t1 : ¬ (bs.length : Int) ≤ (m : Int) := by omega
      have hix : (m : Int) < (bs.length : Int) := by omega
      obtain ⟨q, hq⟩ : ∃ q, bs[m]? = some q := ⟨bs[m]'hlt, List.getElem?_eq_getElem _⟩
      obtain ⟨bk, off, rfl, hbk, hcs⟩ := id (HH.out.resolve_left (by intro e; subst e; simp at hq))
      obtain ⟨hq8, d0⟩ := hcs _ _ hq
      have HQ := keepH hq
      have hmi : i + k < bs.length := by omega
      clear hq hcs he hm
      by_cases h9 : k = 9
      · have t9 : ((k : Int) == 9) = true := by simp; omega
        by_cases hq1 : 1 < q
        · have tq1 : decide ((1 : Int) < (q : Int)) = true := decide_eq_true (by omega)
          have HR := keepH (HX.out.bad HMK.out HQ.out (by unfold mayS; simp; omega))
          clear h9
          go_wp2_with fail
          go_ret3
          unfold numV
          rw [HR.out]
          exact ⟨three_v rfl (by have := HMK.out; dsimp only; omega) rfl, rfl⟩
        · have tq1 : decide ((1 : Int) < (q : Int)) = false := decide_eq_false (by omega)
          have tk : decide (0 < k) = true := decide_eq_true (by omega)
          by_cases hq0 : q = 0
          · have tq0 : ((q : Int) == 0) = true := by simp; omega
            have HR := keepH (HX.out.bad HMK.out HQ.out (by unfold mayS; simp; omega))
            clear h9 hq0
            go_wp2_with fail
            go_ret3
            unfold numV
            rw [HR.out]
            exact ⟨three_v rfl (by have := HMK.out; dsimp only; omega) rfl, rfl⟩
          · have tq0 : ((q : Int) == 0) = false := by simp; omega
            have h7 : q < 128 := by omega
            have t7 : (q : Int) < 128 := by omega
            have HR := keepH (HX.out.fin HMK.out HQ.out (by unfold mayS; simp; omega) h7)
            have HO := keepH (add_shift (q := q) HX.out.lt hk (by unfold mayS; simp; omega))
            clear h9
            go_wp2_with fail
            go_ret3
            unfold numV
            rw [HR.out]
            exact ⟨three_v HO.out (by have := HMK.out; dsimp only; omega) rfl, rfl⟩
      · have t9 : ((k : Int) == 9) = false := by simp; omega
        by_cases hk0 : 0 < k
        · have tk : decide (0 < k) = true := decide_eq_true (by omega)
          by_cases hq0 : q = 0
          · have tq0 : ((q : Int) == 0) = true := by simp; omega
            have HR := keepH (HX.out.bad HMK.out HQ.out (by unfold mayS; simp; omega))
            clear hq0
            go_wp2_with fail
            go_ret3
            unfold numV
            rw [HR.out]
            exact ⟨three_v rfl (by have := HMK.out; dsimp only; omega) rfl, rfl⟩
          · have tq0 : ((q : Int) == 0) = false := by simp; omega
            by_cases h7 : q < 128
            · have t7 : (q : Int) < 128 := by omega
              have HR := keepH (HX.out.fin HMK.out HQ.out (by unfold mayS; simp; omega) h7)
              have HO := keepH (add_shift (q := q) HX.out.lt hk (by unfold mayS; simp; omega))
              skip
              go_wp2_with fail
              go_ret3
              unfold numV
              rw [HR.out]
              exact ⟨three_v HO.out (by have := HMK.out; dsimp only; omega) rfl, rfl⟩
            · have t7 : ¬ (q : Int) < 128 := by omega
              have HO := keepH (add_shift (q := q) HX.out.lt hk (by unfold mayS; simp; omega))
              have HY := keepH (HX.out.more HMK.out HQ.out (by unfold mayS; simp; omega) h7)
              have hmk := keepH HMK.out
              skip
              go_wp2_with fail
              go_roundw
              case rel => exact ⟨k + 1, a + q % 128 * 128 ^ k, by rw [HO.out], by first | rfl | go_num, by omega, by omega, (by first | rfl | trivial), HY⟩
              case measure => simp [intOf]; omega
        · have tk : decide (0 < k) = false := decide_eq_false (by omega)
          by_cases h7 : q < 128
          · have t7 : (q : Int) < 128 := by omega
            have HR := keepH (HX.out.fin HMK.out HQ.out (by unfold mayS; simp; omega) h7)
            have HO := keepH (add_shift (q := q) HX.out.lt hk (by unfold mayS; simp; omega))
            skip
            go_wp2_with fail
            go_ret3
            unfold numV
            rw [HR.out]
            exact ⟨three_v HO.out (by have := HMK.out; dsimp only; omega) rfl, rfl⟩
          · have t7 : ¬ (q : Int) < 128 := by omega
            have HO := keepH (add_shift (q := q) HX.out.lt hk (by unfold mayS; simp; omega))
            have HY := keepH (HX.out.more HMK.out HQ.out (by unfold mayS; simp; omega) h7)
            have hmk := keepH HMK.out
            skip
            go_wp2_with fail
            go_roundw
            case rel => exact ⟨k + 1, a + q % 128 * 128 ^ k, by rw [HO.out], by first | rfl | go_num, by omega, by omega, (by first | rfl | trivial), HY⟩
            case measure => simp [intOf]; omega
end Go.Proofs.Ytbmfjcdafjknaaa
/- The document's put, sum, Encode. -/
namespace Go.Proofs.Ytbmfjcdafjknaaa
open Go.RowKit
set_option linter.unusedVariables false

theorem add_128 (m : Nat) : ((m : Int) % 128 + 128) = ((m % 128 + 128 : Nat) : Int) := by omega
set_option maxRecDepth 100000 in
set_option maxHeartbeats 4000000 in
theorem e_put {W : World} {B : Nat} {v : Value} {l : List Nat} (H : BRow W B v l) (n : Nat) (hn : n < 18446744073709551616) (hl : l.length ≤ 1000000000) (hB : B ≤ W.heap.size) :
    Calls Try.prog 40 #[v, .int .u64 (n : Int)] W fun e W' => (∃ v', e = .returned v' ∧ BRow W' B v' (l ++ numB n) ∧ ∀ k, v'.ownBlock = some k → v.ownBlock = some k ∨ W.heap.size ≤ k) ∧ Chg (fun k => v.ownBlock = some k) W W' := by
  obtain ⟨i0, hi, hz0, hz1, hz2⟩ := info_parts infoU8
  have HN : Hid ((numB n).length ≤ 10) := numB_len10 hn
  have HH := keepH H
  clear H
  go_enter Try.func40, Try.ntmps40
  go_wp2_with fail
  go_loopw [0, 1] (fun s q wr => ∃ (l' : List Nat) (m : Nat), m < 18446744073709551616 ∧ q = .int .u64 (m : Int) ∧ Hid (l' ++ numB m = l ++ numB n ∧ BRow wr B s l' ∧ Chg (fun k => v.ownBlock = some k) W wr ∧ ∀ k, s.ownBlock = some k → v.ownBlock = some k ∨ W.heap.size ≤ k)) (fun _ q _ => (intOf q).toNat)
  case atStart => exact ⟨l, n, hn, rfl, keepH ⟨rfl, HH.out, Chg.refl _ _, fun k e => .inl e⟩⟩
  case round =>
    obtain ⟨l', m, hm, rfl, HX⟩ := hrel
    have HB : Hid (l'.length ≤ 1000000010) := by
      have q := congrArg List.length HX.out.1
      have := HN.out
      simp at q
      exact (by omega : l'.length ≤ 1000000010)
    by_cases c : m < 128
    · have t1 : ¬ (128 : Int) ≤ (m : Int) := by omega
      go_wp2_with (first | (at_builtin; go_loud (refine wpList_append_own_at _ rfl _ _ 23 rfl B 5 i0 (.int .u8 0) 1 1 Try.underlying23 hi hz0 hz1 hz2 rfl (by decide) _ _ _ rfl (HX.out.2.1.1.kept (World.grownBy_alloc _ _ none) (by cases Value.ownBlock _ <;> simp)) ⟨_, 0, none⟩ 1 1 [.int .u8 (m : Int)] rfl rfl (cells_newE _ _ rfl _ _) (by intro u hu; simp at hu; subst hu; rfl) (by unfold maxLen; have := HB.out; omega) (by have := HB.out; omega) (Nat.le_trans (Nat.le_trans hB HX.out.2.2.1.size) (by simp)) ?_); intro v' w3 r1 r2 r3 r4; have R1 := keepH r1; have R2 := keepH r2; have R4 := keepH r4; clear r1 r2 r3 r4))
      go_ret
      refine ⟨⟨_, rfl, ?_, ?_⟩, ?_⟩
      · rw [← HX.out.1, numB_small c]
        exact BRow.add HX.out.2.1.2 (by omega) R1.out
      · exact fun k e => own_new (v' := v') e R4.out (fun k e => HX.out.2.2.2 k e) (by have := HX.out.2.2.1.size; simp; omega)
      · exact (HX.out.2.2.1.alloc _).trans (grown_chgE (F := fun k => Value.ownBlock _ = some k) R2.out (fun k e => e)) (fun _ _ x => x) (fun k hk e => (HX.out.2.2.2 k e).resolve_right (by omega))
    · have t1 : (128 : Int) ≤ (m : Int) := by omega
      have HO := keepH (add_128 m)
      go_wp2_with (first | (at_builtin; go_loud (refine wpList_append_own_at _ rfl _ _ 23 rfl B 5 i0 (.int .u8 0) 1 1 Try.underlying23 hi hz0 hz1 hz2 rfl (by decide) _ _ _ rfl (HX.out.2.1.1.kept (World.grownBy_alloc _ _ none) (by cases Value.ownBlock _ <;> simp)) ⟨_, 0, none⟩ 1 1 [.int .u8 ((m : Int) % 128 + 128)] rfl rfl (cells_newE _ _ rfl _ _) (by intro u hu; simp at hu; subst hu; rfl) (by unfold maxLen; have := HB.out; omega) (by have := HB.out; omega) (Nat.le_trans (Nat.le_trans hB HX.out.2.2.1.size) (by simp)) ?_); intro v' w3 r1 r2 r3 r4; rw [HO.out] at r1; have R1 := keepH r1; have R2 := keepH r2; have R4 := keepH r4; clear r1 r2 r3 r4))
      go_roundw
      case rel =>
        refine ⟨l' ++ [m % 128 + 128], m / 128, by omega, by first | rfl | go_num, keepH ⟨?_, ?_, ?_, ?_⟩⟩
        · rw [← HX.out.1, numB_great c]; simp
        · exact BRow.add HX.out.2.1.2 (by omega) R1.out
        · exact (HX.out.2.2.1.alloc _).trans (grown_chgE (F := fun k => Value.ownBlock _ = some k) R2.out (fun k e => e)) (fun _ _ x => x) (fun k hk e => (HX.out.2.2.2 k e).resolve_right (by omega))
        · exact fun k e => own_new (v' := v') e R4.out (fun k e => HX.out.2.2.2 k e) (by have := HX.out.2.2.1.size; simp; omega)
      case measure => simp [intOf]; omega
set_option maxRecDepth 100000 in
set_option maxHeartbeats 4000000 in
theorem e_put_full {W : World} {ad : Addr} {l : List Nat} (H : ∀ j u, (bRow l)[j]? = some u → W.cell? (ad.add j) = some u) (hs : small8 l) (n : Nat) (hn : n < 18446744073709551616) (hl : l.length ≤ 1000000000) :
    Calls Try.prog 40 #[.slice (some ad) l.length l.length, .int .u64 (n : Int)] W fun e W' => (∃ v', e = .returned v' ∧ BRow W' W.heap.size v' (l ++ numB n)) ∧ Chg (fun k => W.heap.size ≤ k) W W' := by
  obtain ⟨i0, hi, hz0, hz1, hz2⟩ := info_parts infoU8
  have HN : Hid ((numB n).length ≤ 10) := numB_len10 hn
  have HH := keepH H
  clear H
  go_enter Try.func40, Try.ntmps40
  go_wp2_with fail
  go_loopw [0, 1] (fun s q wr => ∃ (m : Nat), m < 18446744073709551616 ∧ q = .int .u64 (m : Int) ∧ ((s = .slice (some ad) l.length l.length ∧ m = n ∧ wr = W) ∨ ∃ l' : List Nat, Hid (l' ++ numB m = l ++ numB n ∧ BRow wr W.heap.size s l' ∧ Chg (fun k => W.heap.size ≤ k) W wr))) (fun _ q _ => (intOf q).toNat)
  case atStart => exact ⟨n, hn, rfl, .inl ⟨rfl, rfl, rfl⟩⟩
  case round =>
    obtain ⟨m, hm, rfl, ⟨rfl, rfl, rfl⟩ | ⟨l', HX⟩⟩ := hrel
    · by_cases c : m < 128
      · have t1 : ¬ (128 : Int) ≤ (m : Int) := by omega
        go_wp2_with (first | (at_builtin; go_loud (refine wpList_append_grows _ rfl _ _ 23 rfl 5 i0 (.int .u8 0) 1 1 Try.underlying23 hi hz0 hz1 hz2 rfl (by decide) (some ad) l.length l.length (bRow l) rfl (fun e => by cases e) (by simp [bRow]) (fun b e j u h => by cases e; exact cell_chg ((Chg.refl (fun _ => False) _).alloc _) (HH.out j u h) (fun x => x)) ⟨_, 0, none⟩ 1 1 [.int .u8 (m : Int)] rfl rfl (cells_newE _ _ rfl _ _) (by intro u hu; simp at hu; subst hu; rfl) (by omega) (by unfold maxLen; omega) (by omega) ?_); intro v' w3 r1 r2; have R1 := keepH r1; have R2 := keepH r2; clear r1 r2))
        go_ret
        refine ⟨⟨_, rfl, ?_⟩, ?_⟩
        · rw [numB_small c]
          exact BRow.add hs (by omega) (row_base R1.out (by simp))
        · exact ((Chg.refl _ _).alloc _).trans (grown_chgE (F := fun k => False) R2.out (fun k e => by cases e)) (fun _ _ x => x) (fun _ _ x => x.elim)
      · have t1 : (128 : Int) ≤ (m : Int) := by omega
        have HO := keepH (add_128 m)
        go_wp2_with (first | (at_builtin; go_loud (refine wpList_append_grows _ rfl _ _ 23 rfl 5 i0 (.int .u8 0) 1 1 Try.underlying23 hi hz0 hz1 hz2 rfl (by decide) (some ad) l.length l.length (bRow l) rfl (fun e => by cases e) (by simp [bRow]) (fun b e j u h => by cases e; exact cell_chg ((Chg.refl (fun _ => False) _).alloc _) (HH.out j u h) (fun x => x)) ⟨_, 0, none⟩ 1 1 [.int .u8 ((m : Int) % 128 + 128)] rfl rfl (cells_newE _ _ rfl _ _) (by intro u hu; simp at hu; subst hu; rfl) (by omega) (by unfold maxLen; omega) (by omega) ?_); intro v' w3 r1 r2; rw [HO.out] at r1; have R1 := keepH r1; have R2 := keepH r2; clear r1 r2))
        go_roundw
        case rel =>
          refine ⟨m / 128, by omega, by first | rfl | go_num, .inr ⟨l ++ [m % 128 + 128], keepH ⟨?_, ?_, ?_⟩⟩⟩
          · rw [numB_great c]; simp
          · exact BRow.add hs (by omega) (row_base R1.out (by simp))
          · exact ((Chg.refl _ _).alloc _).trans (grown_chgE (F := fun k => False) R2.out (fun k e => by cases e)) (fun _ _ x => x) (fun _ _ x => x.elim)
        case measure => simp [intOf]; omega
    · have HB : Hid (l'.length ≤ 1000000010) := by
        have q := congrArg List.length HX.out.1
        have := HN.out
        simp at q
        exact (by omega : l'.length ≤ 1000000010)
      by_cases c : m < 128
      · have t1 : ¬ (128 : Int) ≤ (m : Int) := by omega
        go_wp2_with (first | (at_builtin; go_loud (refine wpList_append_own_at _ rfl _ _ 23 rfl W.heap.size 5 i0 (.int .u8 0) 1 1 Try.underlying23 hi hz0 hz1 hz2 rfl (by decide) _ _ _ rfl (HX.out.2.1.1.kept (World.grownBy_alloc _ _ none) (by cases Value.ownBlock _ <;> simp)) ⟨_, 0, none⟩ 1 1 [.int .u8 (m : Int)] rfl rfl (cells_newE _ _ rfl _ _) (by intro u hu; simp at hu; subst hu; rfl) (by unfold maxLen; have := HB.out; omega) (by have := HB.out; omega) (Nat.le_trans HX.out.2.2.size (by simp)) ?_); intro v' w3 r1 r2 r3 r4; have R1 := keepH r1; have R2 := keepH r2; clear r1 r2 r3 r4))
        go_ret
        refine ⟨⟨_, rfl, ?_⟩, ?_⟩
        · rw [← HX.out.1, numB_small c]
          exact BRow.add HX.out.2.1.2 (by omega) R1.out
        · exact (HX.out.2.2.alloc _).trans (grown_chgE (F := fun k => W.heap.size ≤ k) R2.out (fun k e => (HX.out.2.1.lt k e).1)) (fun _ _ x => x) (fun _ _ x => x)
      · have t1 : (128 : Int) ≤ (m : Int) := by omega
        have HO := keepH (add_128 m)
        go_wp2_with (first | (at_builtin; go_loud (refine wpList_append_own_at _ rfl _ _ 23 rfl W.heap.size 5 i0 (.int .u8 0) 1 1 Try.underlying23 hi hz0 hz1 hz2 rfl (by decide) _ _ _ rfl (HX.out.2.1.1.kept (World.grownBy_alloc _ _ none) (by cases Value.ownBlock _ <;> simp)) ⟨_, 0, none⟩ 1 1 [.int .u8 ((m : Int) % 128 + 128)] rfl rfl (cells_newE _ _ rfl _ _) (by intro u hu; simp at hu; subst hu; rfl) (by unfold maxLen; have := HB.out; omega) (by have := HB.out; omega) (Nat.le_trans HX.out.2.2.size (by simp)) ?_); intro v' w3 r1 r2 r3 r4; rw [HO.out] at r1; have R1 := keepH r1; have R2 := keepH r2; clear r1 r2 r3 r4))
        go_roundw
        case rel =>
          refine ⟨m / 128, by omega, by first | rfl | go_num, .inr ⟨l' ++ [m % 128 + 128], keepH ⟨?_, ?_, ?_⟩⟩⟩
          · rw [← HX.out.1, numB_great c]; simp
          · exact BRow.add HX.out.2.1.2 (by omega) R1.out
          · exact (HX.out.2.2.alloc _).trans (grown_chgE (F := fun k => W.heap.size ≤ k) R2.out (fun k e => (HX.out.2.1.lt k e).1)) (fun _ _ x => x) (fun _ _ x => x)
        case measure => simp [intOf]; omega
set_option maxRecDepth 100000 in
set_option maxHeartbeats 4000000 in
theorem e_sum {W : World} {p : Option Addr} {l : List Nat} (H : BytesAt W p l) (c : Nat) (hl : l.length ≤ 1000000000000) :
    Calls Try.prog 41 #[.slice p l.length c] W fun e W' => e = .returned (.int .u32 (sumF l : Int)) ∧ W' = W := by
  have HH := keepH H
  clear H
  go_enter Try.func41, Try.ntmps41
  go_wp2_with fail
  go_loopw [3, 4] (fun s q wr => ∃ i : Nat, i ≤ l.length ∧ q = .int .i64 (i : Int) ∧ (∃ m : Nat, s = .int .u32 (m : Int) ∧ Hid (m = sumF (l.take i))) ∧ wr = W) (fun _ q _ => l.length - (intOf q).toNat)
  case atStart => exact ⟨0, Nat.zero_le _, rfl, ⟨sumF [], by rw [sumF_nil]; rfl, by rw [List.take_zero]; exact keepH rfl⟩, rfl⟩
  case round =>
    obtain ⟨i, hil, rfl, ⟨m, rfl, HM⟩, rfl⟩ := hrel
    by_cases hlt : i < l.length
    · have q1 : (i : Int) < (l.length : Int) := by omega
      obtain ⟨k, hk⟩ : ∃ k, l[i]? = some k := ⟨l[i], List.getElem?_eq_getElem hlt⟩
      obtain ⟨bk, off, rfl, hbk, hcs⟩ := HH.out.resolve_left (by intro e; subst e; simp at hk)
      obtain ⟨hk8, hcell⟩ := hcs i k hk
      have HT := keepH (sumF_add l i k hk)
      have HS := keepH (stepS_int m k)
      clear hk hcs
      go_wp2_with fail
      go_roundw
      case rel => exact ⟨i + 1, by omega, by first | rfl | go_num, ⟨stepS m k, by rw [HS.out], keepH (by rw [HT.out, ← HM.out])⟩, trivial⟩
      case measure => simp [intOf]; omega
    · have q1 : ¬ (i : Int) < (l.length : Int) := by omega
      obtain rfl : i = l.length := by omega
      rw [List.take_length] at HM
      obtain rfl := HM.out
      go_wp2_with fail
      go_ret
      exact ⟨rfl, rfl⟩

set_option maxRecDepth 100000 in
set_option maxHeartbeats 4000000 in
theorem e_enc_no {W : World} {p : Option Addr} {l : List (Nat × Nat)} (H : PairsAt W p l) (c : Nat) (hl : l.length ≤ 10000000) (hr : riseB l = false) :
    Calls Try.prog 12 #[.slice p l.length c] W fun e W' => e = .returned (.tuple #[.slice none 0 0, .int .i64 52]) ∧ Below W.heap.size W W' := by
  have HC := e_right H c (by omega)
  rw [hr] at HC
  replace HC := keepH HC
  clear H hr
  go_enter Try.func12, Try.ntmps12
  go_wp2_with (first | (go_at_call 39; refine HC.out.mono ?_; rintro e W1 ⟨rfl, hB⟩; have HB := keepH hB; clear hB))
  go_ret2
  exact ⟨rfl, HB.out⟩
set_option maxRecDepth 100000 in
set_option maxHeartbeats 4000000 in
theorem e_enc_yes {W : World} {p : Option Addr} {l : List (Nat × Nat)} (H : PairsAt W p l) (c : Nat) (hl : l.length ≤ 10000000) (hr : riseB l = true) :
    Calls Try.prog 12 #[.slice p l.length c] W fun e W' => (∃ v, e = .returned (.tuple #[v, .int .i64 0]) ∧ BRow W' W.heap.size v (encL l)) ∧ Below W.heap.size W W' := by
  obtain ⟨i0, hi, hz0, hz1, hz2⟩ := info_parts infoU8
  have HC := e_right H c (by omega)
  rw [hr] at HC
  replace HC := keepH HC
  have HH := keepH H
  have HR : Hid (riseB l = true ∧ small64 l) := keepH ⟨hr, H.small⟩
  clear H hr
  have lu : ((l.length : Nat) : Int) < 18446744073709551616 := by omega
  have kc := fun (w : World) (C : Array Value) (n c : Nat) => Lib.run_convert_bytes_const (P := Try.prog) w 23 5 C n c Try.underlying23 Try.underlying5
  go_enter Try.func12, Try.ntmps12
  go_wp2_with (first | (go_at_call 39; refine HC.out.mono ?_; rintro e W1 ⟨rfl, hB⟩; have HB := keepH hB; clear hB) | (go_at_call 40; refine (e_put_full (l := markB) (cells_mark W1) mark_small l.length (by omega) (by decide)).mono ?_; rintro e W2 ⟨⟨v, rfl, r1⟩, r2⟩; have R1 := keepH r1; have R2 := keepH r2; clear r1 r2))
  have HZ : Hid (Chg (fun k => W.heap.size ≤ k) W W2) := keepH (((below_chgE HB.out).alloc _).trans R2.out (fun _ _ x => x.elim) (fun j hj e => by have := HB.out.size; simp at e; omega))
  have HS : Hid (BRow W2 W.heap.size v (encH l 0)) := keepH (by
    have q := R1.out
    refine ⟨row_base (by simpa [encH, encI] using q.1) (by have := HB.out.size; simp; omega), by simpa [encH, encI] using q.2⟩)
  clear R1 R2
  go_loopw [4, 5, 6] (fun s a q wr => ∃ i : Nat, i ≤ l.length ∧ q = .int .i64 (i : Int) ∧ (∃ b : Nat, a = .int .u64 (b : Int) ∧ Hid (b = aheadAt l i)) ∧ Hid (BRow wr W.heap.size s (encH l i) ∧ Chg (fun k => W.heap.size ≤ k) W wr)) (fun _ _ q _ => l.length - (intOf q).toNat)
  case atStart => exact ⟨0, Nat.zero_le _, rfl, ⟨0, rfl, rfl⟩, keepH ⟨HS.out, HZ.out⟩⟩
  case round =>
    obtain ⟨i, hil, rfl, ⟨b, rfl, HA⟩, HX⟩ := hrel
    have HLn : Hid ((encH l i).length ≤ 1000000000 - 40) := by
      have := encH_len HR.out.2 hl i
      exact keepH (by omega)
    by_cases hlt : i < l.length
    · have q1 : (i : Int) < (l.length : Int) := by omega
      obtain ⟨⟨k, x⟩, hk⟩ : ∃ y, l[i]? = some y := ⟨l[i], List.getElem?_eq_getElem hlt⟩
      obtain ⟨bk, off, rfl, hbk, hcs⟩ := HH.out.resolve_left (by intro e; subst e; simp at hk)
      obtain ⟨k64, x64, h0, h1⟩ := hcs i k x hk
      have c0 := cell_chg HX.out.2 h0 (fun z => by simp at z; omega)
      have c1 := cell_chg HX.out.2 h1 (fun z => by simp at z; omega)
      have hbk2 : bk < wr.heap.size := Nat.lt_of_lt_of_le hbk HX.out.2.size
      have hle : b ≤ k := by rw [HA.out]; exact ahead_le HR.out.1 hk
      have hsub : ((k : Int) - (b : Int)) % 18446744073709551616 = ((k - b : Nat) : Int) := by omega
      have hsub0 : (k : Int) - (b : Int) = ((k - b : Nat) : Int) := by omega
      obtain ⟨d, hd⟩ : ∃ d, d = k - b := ⟨_, rfl⟩
      rw [← hd] at hsub hsub0
      have d64 : d < 18446744073709551616 := by omega
      have HE : Hid (encH l (i + 1) = encH l i ++ numB d ++ numB x) := keepH (by rw [encH_add l i k x hk, hd, HA.out])
      have HK : Hid (k = aheadAt l (i + 1)) := keepH (by simp [aheadAt, hk])
      have HD : Hid (d < 18446744073709551616 ∧ x < 18446744073709551616) := ⟨d64, x64⟩
      have HBK := keepH hbk
      clear h0 h1 hcs hk hd hle
      go_wp2_with (first
        | (go_at_call 40; refine (e_put HX.out.1 d HD.out.1 (by have := HLn.out; omega) HX.out.2.size).mono ?_; rintro e W3 ⟨⟨v3, rfl, r1, r2⟩, r3⟩; (have n3 : ¬ Value.ownBlock _ = some bk := fun e => by have := (HX.out.1.lt bk e).1; have := HBK.out; omega); (have d0 := cell_chg r3 c0 n3); (have d1 := cell_chg r3 c1 n3); clear n3; have HP : Hid (BRow W3 W.heap.size v3 (encH l i ++ numB d) ∧ Chg (fun k => W.heap.size ≤ k) W W3) := keepH ⟨r1, HX.out.2.trans r3 (fun _ _ x => x) (fun k _ e => (HX.out.1.lt k e).1)⟩; clear r1 r2 r3 HX)
        | (go_at_call 40; refine (e_put HP.out.1 x HD.out.2 (by have := HLn.out; rw [List.length_append]; have := numB_len10 HD.out.1; omega) HP.out.2.size).mono ?_; rintro e W4 ⟨⟨v4, rfl, r1, r2⟩, r3⟩; (have n4 : ¬ Value.ownBlock _ = some bk := fun e => by have := (HP.out.1.lt bk e).1; have := HBK.out; omega); (have f0 := cell_chg r3 d0 n4); clear n4; have HQ : Hid (BRow W4 W.heap.size v4 (encH l (i + 1)) ∧ Chg (fun k => W.heap.size ≤ k) W W4) := keepH ⟨by rw [HE.out]; exact r1, HP.out.2.trans r3 (fun _ _ x => x) (fun k _ e => (HP.out.1.lt k e).1)⟩; clear r1 r2 r3 HP))
      go_roundw
      case rel => exact ⟨i + 1, by omega, by first | rfl | go_num, ⟨k, rfl, HK.out⟩, HQ.out⟩
      case measure => simp [intOf]; omega
    · have q1 : ¬ (i : Int) < (l.length : Int) := by omega
      obtain rfl : i = l.length := by omega
      obtain ⟨q, cq, rfl, hat, hge⟩ := HX.out.1.slice
      have HSum := keepH (e_sum hat cq (by have := HLn.out; omega))
      clear hat hge
      go_wp2_with (first | (go_at_call 41; refine HSum.out.mono ?_; rintro e W5 ⟨rfl, rfl⟩))
      obtain ⟨sv, hsv⟩ : ∃ sv, sv = sumF (encH l l.length) := ⟨_, rfl⟩
      have hs32 : sv < 4294967296 := by rw [hsv]; exact sumF_lt _
      rw [← hsv]
      have HSV := keepH hsv
      clear hsv
      go_loopw [4, 8] (fun s q wr => ∃ i : Nat, i ≤ 4 ∧ q = .int .i64 (i : Int) ∧ Hid (BRow wr W.heap.size s (encH l l.length ++ (sum4 sv).take i) ∧ Chg (fun k => W.heap.size ≤ k) W wr)) (fun _ q _ => 4 - (intOf q).toNat)
      case atStart => exact ⟨0, by omega, rfl, keepH ⟨by simpa using HX.out.1, HX.out.2⟩⟩
      case round =>
        obtain ⟨i, hi4, rfl, HY⟩ := hrel
        have h5 : i = 0 ∨ i = 1 ∨ i = 2 ∨ i = 3 ∨ i = 4 := by omega
        have HL2 : Hid ((encH l l.length ++ (sum4 sv).take i).length ≤ 1000000010) := keepH (by have := HLn.out; simp [sum4]; omega)
        rcases h5 with rfl | rfl | rfl | rfl | rfl
        · go_wp2_with (first | (at_builtin; go_loud (refine wpList_append_own_at _ rfl _ _ 23 rfl W.heap.size 5 i0 (.int .u8 0) 1 1 Try.underlying23 hi hz0 hz1 hz2 rfl (by decide) _ _ _ rfl (HY.out.1.1.kept (World.grownBy_alloc _ _ none) (by cases Value.ownBlock _ <;> simp)) ⟨_, 0, none⟩ 1 1 [.int .u8 ((sv : Int) % 256)] rfl rfl (cells_newE _ _ rfl _ _) (by intro u hu; simp at hu; subst hu; rfl) (by unfold maxLen; have := HL2.out; omega) (by have := HL2.out; omega) (Nat.le_trans HY.out.2.size (by simp)) ?_); intro v' w3 r1 r2 r3 r4; have R1 := keepH r1; have R2 := keepH r2; clear r1 r2 r3 r4))
          go_roundw
          case rel =>
            refine ⟨1, by omega, by first | rfl | go_num, keepH ⟨?_, ?_⟩⟩
            · rw [sum4_take sv 0 (by omega), ← List.append_assoc]
              exact BRow.add HY.out.1.2 (by omega) (by have := R1.out; simpa using this)
            · exact (HY.out.2.alloc _).trans (grown_chgE (F := fun k => W.heap.size ≤ k) R2.out (fun k e => (HY.out.1.lt k e).1)) (fun _ _ x => x) (fun _ _ x => x)
          case measure => simp [intOf]
        · go_wp2_with (first | (at_builtin; go_loud (refine wpList_append_own_at _ rfl _ _ 23 rfl W.heap.size 5 i0 (.int .u8 0) 1 1 Try.underlying23 hi hz0 hz1 hz2 rfl (by decide) _ _ _ rfl (HY.out.1.1.kept (World.grownBy_alloc _ _ none) (by cases Value.ownBlock _ <;> simp)) ⟨_, 0, none⟩ 1 1 [.int .u8 ((sv : Int) / 256 % 256)] rfl rfl (cells_newE _ _ rfl _ _) (by intro u hu; simp at hu; subst hu; rfl) (by unfold maxLen; have := HL2.out; omega) (by have := HL2.out; omega) (Nat.le_trans HY.out.2.size (by simp)) ?_); intro v' w3 r1 r2 r3 r4; have R1 := keepH r1; have R2 := keepH r2; clear r1 r2 r3 r4))
          go_roundw
          case rel =>
            refine ⟨2, by omega, by first | rfl | go_num, keepH ⟨?_, ?_⟩⟩
            · rw [sum4_take sv 1 (by omega), ← List.append_assoc]
              exact BRow.add HY.out.1.2 (by omega) (by have := R1.out; simpa using this)
            · exact (HY.out.2.alloc _).trans (grown_chgE (F := fun k => W.heap.size ≤ k) R2.out (fun k e => (HY.out.1.lt k e).1)) (fun _ _ x => x) (fun _ _ x => x)
          case measure => simp [intOf]
        · go_wp2_with (first | (at_builtin; go_loud (refine wpList_append_own_at _ rfl _ _ 23 rfl W.heap.size 5 i0 (.int .u8 0) 1 1 Try.underlying23 hi hz0 hz1 hz2 rfl (by decide) _ _ _ rfl (HY.out.1.1.kept (World.grownBy_alloc _ _ none) (by cases Value.ownBlock _ <;> simp)) ⟨_, 0, none⟩ 1 1 [.int .u8 ((sv : Int) / 65536 % 256)] rfl rfl (cells_newE _ _ rfl _ _) (by intro u hu; simp at hu; subst hu; rfl) (by unfold maxLen; have := HL2.out; omega) (by have := HL2.out; omega) (Nat.le_trans HY.out.2.size (by simp)) ?_); intro v' w3 r1 r2 r3 r4; have R1 := keepH r1; have R2 := keepH r2; clear r1 r2 r3 r4))
          go_roundw
          case rel =>
            refine ⟨3, by omega, by first | rfl | go_num, keepH ⟨?_, ?_⟩⟩
            · rw [sum4_take sv 2 (by omega), ← List.append_assoc]
              exact BRow.add HY.out.1.2 (by omega) (by have := R1.out; simpa using this)
            · exact (HY.out.2.alloc _).trans (grown_chgE (F := fun k => W.heap.size ≤ k) R2.out (fun k e => (HY.out.1.lt k e).1)) (fun _ _ x => x) (fun _ _ x => x)
          case measure => simp [intOf]
        · go_wp2_with (first | (at_builtin; go_loud (refine wpList_append_own_at _ rfl _ _ 23 rfl W.heap.size 5 i0 (.int .u8 0) 1 1 Try.underlying23 hi hz0 hz1 hz2 rfl (by decide) _ _ _ rfl (HY.out.1.1.kept (World.grownBy_alloc _ _ none) (by cases Value.ownBlock _ <;> simp)) ⟨_, 0, none⟩ 1 1 [.int .u8 ((sv : Int) / 16777216)] rfl rfl (cells_newE _ _ rfl _ _) (by intro u hu; simp at hu; subst hu; rfl) (by unfold maxLen; have := HL2.out; omega) (by have := HL2.out; omega) (Nat.le_trans HY.out.2.size (by simp)) ?_); intro v' w3 r1 r2 r3 r4; have R1 := keepH r1; have R2 := keepH r2; clear r1 r2 r3 r4))
          go_roundw
          case rel =>
            refine ⟨4, by omega, by first | rfl | go_num, keepH ⟨?_, ?_⟩⟩
            · rw [sum4_take sv 3 (by omega), ← List.append_assoc]
              exact BRow.add HY.out.1.2 (by omega) (by have := R1.out; have e3 : ((sv : Int) / 16777216) = ((sv / 256 ^ 3 % 256 : Nat) : Int) := (by have z : (256 : Nat) ^ 3 = 16777216 := rfl; rw [z]; omega); rw [e3] at this; exact (by simpa using this))
            · exact (HY.out.2.alloc _).trans (grown_chgE (F := fun k => W.heap.size ≤ k) R2.out (fun k e => (HY.out.1.lt k e).1)) (fun _ _ x => x) (fun _ _ x => x)
          case measure => simp [intOf]
        · go_wp2_with fail
          go_ret2
          refine ⟨⟨_, rfl, ?_⟩, chg_belowE HY.out.2⟩
          have := HY.out.1
          rw [HSV.out] at this
          exact this
end Go.Proofs.Ytbmfjcdafjknaaa
/- The document's Decode. -/
namespace Go.Proofs.Ytbmfjcdafjknaaa
open Go.RowKit Go.Joins Go.Shelf
set_option linter.unusedVariables false

theorem rdN_len (l : List Nat) : ∀ p a, (rdN l p a).2.2 ≤ l.length := by
  induction l with
  | nil => intro p a; simp [rdN]
  | cons c t ih =>
    intro p a
    by_cases hm : mayS c p = true
    · by_cases hc : c < 128
      · rw [rdN_end hm hc]; simp
      · rw [rdN_more hm hc]
        have := ih (p + 1) (a + c % 128 * 128 ^ p)
        simp [add3]
        omega
    · rw [rdN_may (by simpa using hm)]; simp
theorem e_number_ok {W : World} {p : Option Addr} {bs : List Nat} (H : BytesAt W p bs) (c i : Nat) (hi : i ≤ bs.length) (hn : bs.length ≤ 1000000000) {v u : Nat} (hr : rdN (bs.drop i) 0 0 = (v, 0, u)) :
    Calls Try.prog 43 #[.slice p bs.length c, .int .i64 (i : Int)] W fun e W' => e = .returned (.tuple #[.int .u64 (v : Int), .int .i64 ((i + u : Nat) : Int), .int .i64 0]) ∧ W' = W := by
  have := e_number H c i hi hn
  unfold numV at this
  rw [hr] at this
  exact this
theorem e_number_bad {W : World} {p : Option Addr} {bs : List Nat} (H : BytesAt W p bs) (c i : Nat) (hi : i ≤ bs.length) (hn : bs.length ≤ 1000000000) {v e1 u : Nat} (hr : rdN (bs.drop i) 0 0 = (v, e1, u)) (he : e1 ≠ 0) :
    Calls Try.prog 43 #[.slice p bs.length c, .int .i64 (i : Int)] W fun e W' => e = .returned (.tuple #[.int .u64 0, .int .i64 ((i + u : Nat) : Int), .int .i64 (e1 : Int)]) ∧ W' = W := by
  have := e_number H c i hi hn
  unfold numV at this
  rw [hr] at this
  simp only [if_neg he] at this
  exact this
theorem e_number_okN {W : World} {p : Option Addr} {bs : List Nat} {N : Nat} (hN : N = bs.length) (H : BytesAt W p bs) (c i : Nat) (hi : i ≤ N) (hn : N ≤ 1000000000) {v u : Nat} (hr : rdN (bs.drop i) 0 0 = (v, 0, u)) :
    Calls Try.prog 43 #[.slice p N c, .int .i64 (i : Int)] W fun e W' => e = .returned (.tuple #[.int .u64 (v : Int), .int .i64 ((i + u : Nat) : Int), .int .i64 0]) ∧ W' = W := by
  subst hN
  exact e_number_ok H c i hi hn hr
theorem e_number_badN {W : World} {p : Option Addr} {bs : List Nat} {N : Nat} (hN : N = bs.length) (H : BytesAt W p bs) (c i : Nat) (hi : i ≤ N) (hn : N ≤ 1000000000) {v e1 u : Nat} (hr : rdN (bs.drop i) 0 0 = (v, e1, u)) (he : e1 ≠ 0) :
    Calls Try.prog 43 #[.slice p N c, .int .i64 (i : Int)] W fun e W' => e = .returned (.tuple #[.int .u64 0, .int .i64 ((i + u : Nat) : Int), .int .i64 (e1 : Int)]) ∧ W' = W := by
  subst hN
  exact e_number_bad H c i hi hn hr he
theorem rdA_1 {bs : List Nat} {e i : Nat} (h : rdM bs 4 = (e, i)) (he : e ≠ 0) : rdA bs = ([], e, i) := by unfold rdA; rw [h]; simp [he]
theorem rdA_2 {bs : List Nat} {l : List (Nat × Nat)} {e i : Nat} (h : rdM bs 4 = (0, 4)) (h2 : rdC bs 4 = (l, e, i)) (he : e ≠ 0) : rdA bs = ([], e, i) := by unfold rdA; rw [h, h2]; simp [he]
theorem rdA_3 {bs : List Nat} {l : List (Nat × Nat)} {i e k : Nat} (h : rdM bs 4 = (0, 4)) (h2 : rdC bs 4 = (l, 0, i)) (h3 : rdS bs i = (e, k)) (he : e ≠ 0) : rdA bs = ([], e, k) := by unfold rdA; rw [h, h2]; simp only [ne_eq, not_true, if_false]; rw [h3]; simp [he]
theorem rdA_4 {bs : List Nat} {l : List (Nat × Nat)} {i k : Nat} (h : rdM bs 4 = (0, 4)) (h2 : rdC bs 4 = (l, 0, i)) (h3 : rdS bs i = (0, k)) (he : ¬ k = bs.length) : rdA bs = ([], 272, k) := by unfold rdA; rw [h, h2]; simp only [ne_eq, not_true, if_false]; rw [h3]; simp [he]
theorem rdA_5 {bs : List Nat} {l : List (Nat × Nat)} {i k : Nat} (h : rdM bs 4 = (0, 4)) (h2 : rdC bs 4 = (l, 0, i)) (h3 : rdS bs i = (0, k)) (he : k = bs.length) : rdA bs = (l, 0, 0) := by unfold rdA; rw [h, h2]; simp only [ne_eq, not_true, if_false]; rw [h3]; simp [he]
theorem rdS_short {bs : List Nat} {j : Nat} (h : bs.length - j < 4) : rdS bs j = (270, bs.length) := by unfold rdS; rw [if_pos h]
theorem rdS_ok {bs : List Nat} {j s : Nat} (h : ¬ bs.length - j < 4) (hs : s = sumF (bs.take j)) (he : (bs.drop j).take 4 = (sum4 s).take 4) : rdS bs j = (0, j + 4) := by
  unfold rdS
  rw [if_neg h, ← hs, if_pos (by rw [he]; rfl)]
theorem rdS_bad {bs : List Nat} {j s : Nat} (h : ¬ bs.length - j < 4) (hs : s = sumF (bs.take j)) (he : ¬ (bs.drop j).take 4 = sum4 s) : rdS bs j = (271, j) := by
  unfold rdS
  rw [if_neg h, ← hs, if_neg he]
theorem take_at {bs : List Nat} {j i q : Nat} (h : bs[j + i]? = some q) : (bs.drop j).take (i + 1) = (bs.drop j).take i ++ [q] := by
  rw [List.take_add_one, List.getElem?_drop, h]
  rfl
/-- What stays while the document reads pairs. -/
structure KI (W wr : World) (bs : List Nat) (n j0 j : Nat) (s : Value) (l : List (Nat × Nat)) : Prop where
  eq : rdPs bs n j0 [] = rdPs bs (n - l.length) j l
  le : l.length ≤ n
  lj : l.length ≤ j
  hj : j ≤ bs.length
  row : wr.ownsRow W.heap.size 71 2 s l.length (prRow l)
  sm : small64 l
  bel : Below W.heap.size W wr
theorem KI.len {W wr : World} {bs : List Nat} {n j0 j : Nat} {s : Value} {l : List (Nat × Nat)} (h : KI W wr bs n j0 j s l) (hn : bs.length ≤ 1000000000) : l.length ≤ 1000000000 := by
  have := h.lj
  have := h.hj
  omega
theorem KI.fin {W wr : World} {bs : List Nat} {n j0 j : Nat} {s : Value} {l : List (Nat × Nat)} (h : KI W wr bs n j0 j s l) (hlt : ¬ l.length < n) : rdPs bs n j0 [] = (l, 0, j) := by
  rw [h.eq, show n - l.length = 0 by omega, rdPs]
theorem KI.bad {W wr : World} {bs : List Nat} {n j0 j : Nat} {s : Value} {l : List (Nat × Nat)} {x : Nat × Nat} {j' e : Nat} (h : KI W wr bs n j0 j s l) (hlt : l.length < n) (hr : rdPr bs j (lastK l) = (x, e, j')) (he : e ≠ 0) : rdPs bs n j0 [] = ([], e, j') := by
  rw [h.eq]
  obtain ⟨m, hm⟩ : ∃ m, n - l.length = m + 1 := ⟨n - l.length - 1, by omega⟩
  rw [hm, rdPs, hr, if_pos (by simpa using he)]
theorem KI.more {W wr Y w3 : World} {bs : List Nat} {n j0 j : Nat} {s v' : Value} {l : List (Nat × Nat)} {k v j' : Nat} (h : KI W wr bs n j0 j s l) (h8 : small8 bs) (hlt : l.length < n) (hr : rdPr bs j (lastK l) = ((k, v), 0, j')) (h2 : Chg (fun _ => False) wr Y) (r1 : w3.ownsRow W.heap.size 71 2 v' (l.length + 1) (prRow l ++ [.int .u64 (k : Int), .int .u64 (v : Int)])) (r2 : Y.grownBy w3 s.ownBlock) : KI W w3 bs n j0 j' v' (l ++ [(k, v)]) := by
  have ad := rdPr_adv (bs := bs) (i := j) (last := lastK l) h8 h.hj (last_small h.sm) (by rw [hr])
  obtain ⟨_, _, _, _, _, a4, _⟩ := rdPr_back (bs := bs) (i := j) (last := lastK l) h8 h.hj (last_small h.sm) (by rw [hr])
  rw [hr] at ad a4
  simp only at ad a4
  refine ⟨?_, by simp; omega, by have := h.lj; simp; omega, a4, by simpa [prRow] using r1, ?_, turn_end h.bel h.row h2 r2⟩
  · rw [h.eq]
    obtain ⟨m, hm⟩ : ∃ m, n - l.length = m + 1 := ⟨n - l.length - 1, by omega⟩
    have hm2 : n - (l ++ [(k, v)]).length = m := by simp; omega
    rw [hm, hm2, rdPs, hr]
    simp
  · intro x hx
    rcases List.mem_append.1 hx with q | q
    · exact h.sm x q
    · simp at q; subst q; exact ad.2
set_option maxRecDepth 100000 in
set_option maxHeartbeats 8000000 in
theorem e_decode {W : World} {p : Option Addr} {bs : List Nat} (H : BytesAt W p bs) {c N : Nat} (hN : N = bs.length) (hc : N ≤ c ∧ c ≤ 9223372036854775807) (hn : N ≤ 1000000000) :
    Calls Try.prog 14 #[.slice p N c] W fun e W' => ∃ (pq : Option Addr) (cq : Nat) (l : List (Nat × Nat)) (e1 j : Nat), rdA bs = (l, e1, j) ∧ e = .returned (.tuple #[.slice pq l.length cq, .int .i64 (e1 : Int), .int .i64 (j : Int)]) ∧ PairsAt W' pq l ∧ Below W.heap.size W W' := by
  obtain ⟨i0, hi, hz0, hz1, hz2⟩ := info_parts infoPair
  have HH := keepH H
  have HNN := keepH hN
  clear H hN
  go_enter Try.func14, Try.ntmps14
  go_wp2_with fail
  go_loopw [5] (fun q wr => ∃ i : Nat, i ≤ 4 ∧ q = .int .i64 (i : Int) ∧ Hid (rdM bs 4 = rdM bs (4 - i) ∧ i ≤ N ∧ Below W.heap.size W wr)) (fun q _ => 4 - (intOf q).toNat)
  case atStart => exact ⟨0, by omega, rfl, keepH ⟨rfl, Nat.zero_le _, Below.refl _ _⟩⟩
  case round =>
    obtain ⟨i, hi4, rfl, HX⟩ := hrel
    have h5 : i = 0 ∨ i = 1 ∨ i = 2 ∨ i = 3 ∨ i = 4 := by omega
    rcases h5 with rfl | rfl | rfl | rfl | rfl
    · skip
      by_cases he : 0 = N
      · subst he
        have HA := keepH (rdA_1 (e := 270) (i := 0) (by first | rw [HX.out.1, rdM_short (by omega) (List.getElem?_eq_none_iff.2 (by have := HNN.out; omega))] | exact rdM_short (i := 0) (by omega) (List.getElem?_eq_none_iff.2 (by have := HNN.out; omega))) (by decide))
        go_wp2_with fail
        go_ret3
        exact ⟨none, 0, [], _, _, HA.out, rfl, .inl rfl, HX.out.2.2⟩
      · have hlt : 0 < N := by have := HX.out.2.1; omega
        have t0 : ¬ (N : Int) ≤ ((0 : Nat) : Int) := by omega
        have t00 : ¬ N = 0 := by omega
        have t01 : decide (N = 0) = false := decide_eq_false t00
        obtain ⟨q, hq⟩ : ∃ q, bs[0]? = some q := ⟨bs[0]'(by have := HNN.out; omega), List.getElem?_eq_getElem _⟩
        obtain ⟨bk, off, rfl, hbk, hcs⟩ := (HH.out.chg (below_chgE HX.out.2.2) (fun _ _ _ x => x)).resolve_left (by intro e; subst e; simp at hq)
        obtain ⟨hq8, d0⟩ := hcs _ _ hq
        simp only [Nat.add_zero] at d0
        have HQ := keepH hq
        have hix : ((0 : Nat) : Int) < (N : Int) := by omega
        clear hq hcs he
        by_cases hm : q = 83
        · have t1 : ((q : Int) != ((((⟨#[83, 72, 85, 49]⟩ : ByteArray)[0]'(by decide)).toNat : Nat) : Int)) = false := by
            show ((q : Int) != 83) = false
            simp [hm]
          have HM := keepH hm
          clear hm
          go_wp2_with fail
          go_quiet (fail)
          go_wp2_with fail
          go_roundw
          case rel => exact ⟨1, by omega, by first | rfl | go_num, keepH ⟨by first | rw [HX.out.1, rdM_more (by omega) (by rw [HQ.out, HM.out]; rfl)] | exact rdM_more (i := 0) (by omega) (by rw [HQ.out, HM.out]; rfl), hlt, below_drew HX.out.2.2 _⟩⟩
          case measure => simp [intOf]
        · have t1 : ((q : Int) != ((((⟨#[83, 72, 85, 49]⟩ : ByteArray)[0]'(by decide)).toNat : Nat) : Int)) = true := by
            show ((q : Int) != 83) = true
            simp; omega
          have HA := keepH (rdA_1 (e := 271) (i := 0) (by first | rw [HX.out.1, rdM_bad (by omega) HQ.out (by simp [markB]; exact hm)] | exact rdM_bad (i := 0) (by omega) HQ.out (by simp [markB]; exact hm)) (by decide))
          clear hm
          go_wp2_with fail
          go_quiet (fail)
          go_wp2_with fail
          go_ret3
          exact ⟨none, 0, [], _, _, HA.out, rfl, .inl rfl, below_drew HX.out.2.2 _⟩
    · skip
      by_cases he : 1 = N
      · subst he
        have HA := keepH (rdA_1 (e := 270) (i := 1) (by first | rw [HX.out.1, rdM_short (by omega) (List.getElem?_eq_none_iff.2 (by have := HNN.out; omega))] | exact rdM_short (i := 1) (by omega) (List.getElem?_eq_none_iff.2 (by have := HNN.out; omega))) (by decide))
        go_wp2_with fail
        go_ret3
        exact ⟨none, 0, [], _, _, HA.out, rfl, .inl rfl, HX.out.2.2⟩
      · have hlt : 1 < N := by have := HX.out.2.1; omega
        have t0 : ¬ (N : Int) ≤ ((1 : Nat) : Int) := by omega
        obtain ⟨q, hq⟩ : ∃ q, bs[1]? = some q := ⟨bs[1]'(by have := HNN.out; omega), List.getElem?_eq_getElem _⟩
        obtain ⟨bk, off, rfl, hbk, hcs⟩ := (HH.out.chg (below_chgE HX.out.2.2) (fun _ _ _ x => x)).resolve_left (by intro e; subst e; simp at hq)
        obtain ⟨hq8, d0⟩ := hcs _ _ hq
        have HQ := keepH hq
        have hix : ((1 : Nat) : Int) < (N : Int) := by omega
        clear hq hcs he
        by_cases hm : q = 72
        · have t1 : ((q : Int) != ((((⟨#[83, 72, 85, 49]⟩ : ByteArray)[1]'(by decide)).toNat : Nat) : Int)) = false := by
            show ((q : Int) != 72) = false
            simp [hm]
          have HM := keepH hm
          clear hm
          go_wp2_with fail
          go_quiet (fail)
          go_wp2_with fail
          go_roundw
          case rel => exact ⟨2, by omega, by first | rfl | go_num, keepH ⟨by first | rw [HX.out.1, rdM_more (by omega) (by rw [HQ.out, HM.out]; rfl)] | exact rdM_more (i := 1) (by omega) (by rw [HQ.out, HM.out]; rfl), hlt, below_drew HX.out.2.2 _⟩⟩
          case measure => simp [intOf]
        · have t1 : ((q : Int) != ((((⟨#[83, 72, 85, 49]⟩ : ByteArray)[1]'(by decide)).toNat : Nat) : Int)) = true := by
            show ((q : Int) != 72) = true
            simp; omega
          have HA := keepH (rdA_1 (e := 271) (i := 1) (by first | rw [HX.out.1, rdM_bad (by omega) HQ.out (by simp [markB]; exact hm)] | exact rdM_bad (i := 1) (by omega) HQ.out (by simp [markB]; exact hm)) (by decide))
          clear hm
          go_wp2_with fail
          go_quiet (fail)
          go_wp2_with fail
          go_ret3
          exact ⟨none, 0, [], _, _, HA.out, rfl, .inl rfl, below_drew HX.out.2.2 _⟩
    · skip
      by_cases he : 2 = N
      · subst he
        have HA := keepH (rdA_1 (e := 270) (i := 2) (by first | rw [HX.out.1, rdM_short (by omega) (List.getElem?_eq_none_iff.2 (by have := HNN.out; omega))] | exact rdM_short (i := 2) (by omega) (List.getElem?_eq_none_iff.2 (by have := HNN.out; omega))) (by decide))
        go_wp2_with fail
        go_ret3
        exact ⟨none, 0, [], _, _, HA.out, rfl, .inl rfl, HX.out.2.2⟩
      · have hlt : 2 < N := by have := HX.out.2.1; omega
        have t0 : ¬ (N : Int) ≤ ((2 : Nat) : Int) := by omega
        obtain ⟨q, hq⟩ : ∃ q, bs[2]? = some q := ⟨bs[2]'(by have := HNN.out; omega), List.getElem?_eq_getElem _⟩
        obtain ⟨bk, off, rfl, hbk, hcs⟩ := (HH.out.chg (below_chgE HX.out.2.2) (fun _ _ _ x => x)).resolve_left (by intro e; subst e; simp at hq)
        obtain ⟨hq8, d0⟩ := hcs _ _ hq
        have HQ := keepH hq
        have hix : ((2 : Nat) : Int) < (N : Int) := by omega
        clear hq hcs he
        by_cases hm : q = 85
        · have t1 : ((q : Int) != ((((⟨#[83, 72, 85, 49]⟩ : ByteArray)[2]'(by decide)).toNat : Nat) : Int)) = false := by
            show ((q : Int) != 85) = false
            simp [hm]
          have HM := keepH hm
          clear hm
          go_wp2_with fail
          go_quiet (fail)
          go_wp2_with fail
          go_roundw
          case rel => exact ⟨3, by omega, by first | rfl | go_num, keepH ⟨by first | rw [HX.out.1, rdM_more (by omega) (by rw [HQ.out, HM.out]; rfl)] | exact rdM_more (i := 2) (by omega) (by rw [HQ.out, HM.out]; rfl), hlt, below_drew HX.out.2.2 _⟩⟩
          case measure => simp [intOf]
        · have t1 : ((q : Int) != ((((⟨#[83, 72, 85, 49]⟩ : ByteArray)[2]'(by decide)).toNat : Nat) : Int)) = true := by
            show ((q : Int) != 85) = true
            simp; omega
          have HA := keepH (rdA_1 (e := 271) (i := 2) (by first | rw [HX.out.1, rdM_bad (by omega) HQ.out (by simp [markB]; exact hm)] | exact rdM_bad (i := 2) (by omega) HQ.out (by simp [markB]; exact hm)) (by decide))
          clear hm
          go_wp2_with fail
          go_quiet (fail)
          go_wp2_with fail
          go_ret3
          exact ⟨none, 0, [], _, _, HA.out, rfl, .inl rfl, below_drew HX.out.2.2 _⟩
    · skip
      by_cases he : 3 = N
      · subst he
        have HA := keepH (rdA_1 (e := 270) (i := 3) (by first | rw [HX.out.1, rdM_short (by omega) (List.getElem?_eq_none_iff.2 (by have := HNN.out; omega))] | exact rdM_short (i := 3) (by omega) (List.getElem?_eq_none_iff.2 (by have := HNN.out; omega))) (by decide))
        go_wp2_with fail
        go_ret3
        exact ⟨none, 0, [], _, _, HA.out, rfl, .inl rfl, HX.out.2.2⟩
      · have hlt : 3 < N := by have := HX.out.2.1; omega
        have t0 : ¬ (N : Int) ≤ ((3 : Nat) : Int) := by omega
        obtain ⟨q, hq⟩ : ∃ q, bs[3]? = some q := ⟨bs[3]'(by have := HNN.out; omega), List.getElem?_eq_getElem _⟩
        obtain ⟨bk, off, rfl, hbk, hcs⟩ := (HH.out.chg (below_chgE HX.out.2.2) (fun _ _ _ x => x)).resolve_left (by intro e; subst e; simp at hq)
        obtain ⟨hq8, d0⟩ := hcs _ _ hq
        have HQ := keepH hq
        have hix : ((3 : Nat) : Int) < (N : Int) := by omega
        clear hq hcs he
        by_cases hm : q = 49
        · have t1 : ((q : Int) != ((((⟨#[83, 72, 85, 49]⟩ : ByteArray)[3]'(by decide)).toNat : Nat) : Int)) = false := by
            show ((q : Int) != 49) = false
            simp [hm]
          have HM := keepH hm
          clear hm
          go_wp2_with fail
          go_quiet (fail)
          go_wp2_with fail
          go_roundw
          case rel => exact ⟨4, by omega, by first | rfl | go_num, keepH ⟨by first | rw [HX.out.1, rdM_more (by omega) (by rw [HQ.out, HM.out]; rfl)] | exact rdM_more (i := 3) (by omega) (by rw [HQ.out, HM.out]; rfl), hlt, below_drew HX.out.2.2 _⟩⟩
          case measure => simp [intOf]
        · have t1 : ((q : Int) != ((((⟨#[83, 72, 85, 49]⟩ : ByteArray)[3]'(by decide)).toNat : Nat) : Int)) = true := by
            show ((q : Int) != 49) = true
            simp; omega
          have HA := keepH (rdA_1 (e := 271) (i := 3) (by first | rw [HX.out.1, rdM_bad (by omega) HQ.out (by simp [markB]; exact hm)] | exact rdM_bad (i := 3) (by omega) HQ.out (by simp [markB]; exact hm)) (by decide))
          clear hm
          go_wp2_with fail
          go_quiet (fail)
          go_wp2_with fail
          go_ret3
          exact ⟨none, 0, [], _, _, HA.out, rfl, .inl rfl, below_drew HX.out.2.2 _⟩
    · skip
      have HM4 : Hid (rdM bs 4 = (0, 4)) := keepH (by rw [HX.out.1]; rfl)
      have h4b := HX.out.2.1
      have HB1 := keepH HX.out.2.2
      have HS8 := keepH HH.out.small
      clear HX
      obtain ⟨r0, hr0⟩ : ∃ r, r = rdN (bs.drop 4) 0 0 := ⟨_, rfl⟩
      obtain ⟨n, e0, u0⟩ := r0
      have HR0 := keepH hr0.symm
      have hn64 : n < 18446744073709551616 := by
        have := rdN_small (bs.drop 4) (fun x hx => HS8.out x (List.mem_of_mem_drop hx))
        rw [← hr0] at this
        exact this
      have hju := rdN_len (bs.drop 4) 0 0
      rw [← hr0, List.length_drop] at hju
      simp only at hju
      clear hr0
      by_cases he0 : e0 = 0
      · subst he0
        have HN0 := keepH (e_number_okN HNN.out (HH.out.chg (below_chgE HB1.out) (fun _ _ _ x => x)) c 4 h4b hn HR0.out)
        have HC4 : Hid (rdC bs 4 = rdPs bs n (4 + u0) []) := keepH (by unfold rdC; rw [HR0.out]; simp)
        have hu4 : 4 + u0 ≤ N := by have := HNN.out; omega
        obtain ⟨j0, hj0⟩ : ∃ j0, j0 = 4 + u0 := ⟨_, rfl⟩
        rw [← hj0] at HN0 HC4 hu4
        clear hj0 hju
        go_wp2_with (first | (go_at_call 43; refine HN0.out.mono ?_; clear HN0; rintro e W3 ⟨rfl, rfl⟩))
        go_loopw [7, 9, 10, 11] (fun a s la ii wr => ∃ (j lv : Nat) (l : List (Nat × Nat)), a = .int .i64 (j : Int) ∧ la = .int .u64 (lv : Int) ∧ ii = .int .u64 (l.length : Int) ∧ l.length ≤ n ∧ Hid (lv = (lastK l).getD 0) ∧ Hid (KI W wr bs n j0 j s l)) (fun _ _ _ ii _ => n - (intOf ii).toNat)
        case atStart => exact ⟨j0, 0, [], rfl, rfl, rfl, by simp, keepH rfl, keepH ⟨by simp, by simp, by simp, by have := HNN.out; omega, World.ownsRow_nil _ _ _ _, (by intro x hx; simp at hx), HB1.out⟩⟩
        case round =>
          obtain ⟨j, la, l, rfl, rfl, rfl, hln0, HLA, HX⟩ := hrel
          by_cases hlt : l.length < n
          · have q1 : (l.length : Int) < (n : Int) := by omega
            obtain ⟨r1, hr1⟩ : ∃ r, r = rdN (bs.drop j) 0 0 := ⟨_, rfl⟩
            obtain ⟨k, e1, u1⟩ := r1
            have HR1 := keepH hr1.symm
            have hk64 : k < 18446744073709551616 := by
              have := rdN_small (bs.drop j) (fun x hx => HS8.out x (List.mem_of_mem_drop hx))
              rw [← hr1] at this
              exact this
            have hju := rdN_len (bs.drop j) 0 0
            rw [← hr1, List.length_drop] at hju
            simp only at hju
            have hj : j ≤ N := by have := HX.out.hj; have := HNN.out; omega
            have hju1 : j + u1 ≤ N := by have := HNN.out; omega
            clear hr1 hju
            by_cases he1 : e1 = 0
            · subst he1
              have HN1 := keepH (e_number_okN HNN.out (HH.out.chg (below_chgE HX.out.bel) (fun _ _ _ x => x)) c j hj hn HR1.out)
              by_cases hl0 : l.length = 0
              · have hln : ¬ (0 : Int) < (l.length : Int) := by omega
                have hlN : decide (0 < l.length) = false := decide_eq_false (by omega)
                have HLK : Hid (lastK l = none) := keepH (by rw [List.length_eq_zero_iff.1 hl0]; rfl)
                obtain rfl : la = 0 := by rw [HLA.out, HLK.out]; rfl
                clear hl0
                obtain ⟨r2, hr2⟩ : ∃ r, r = rdN (bs.drop (j + u1)) 0 0 := ⟨_, rfl⟩
                obtain ⟨v, e2, u2⟩ := r2
                have HR2 := keepH hr2.symm
                clear hr2
                have HKK : Hid (k = k) := keepH rfl
                by_cases he2 : e2 = 0
                · subst he2
                  have HN2 := keepH (e_number_okN HNN.out (HH.out.chg (below_chgE HX.out.bel) (fun _ _ _ x => x)) c (j + u1) hju1 hn HR2.out)
                  have HPR : Hid (rdPr bs j (lastK l) = ((k, v), 0, j + u1 + u2)) := keepH (by unfold rdPr; rw [HR1.out]; rw [HLK.out]; simp [badK]; simp [HR2.out])
                  obtain ⟨m1, hm1⟩ : ∃ m, m = j + u1 := ⟨_, rfl⟩
                  obtain ⟨m2, hm2⟩ : ∃ m, m = m1 + u2 := ⟨_, rfl⟩
                  rw [← hm1] at HN1 HN2 HPR
                  rw [← hm2] at HN2 HPR
                  clear hm1 hm2 hju1 
                  go_wp2_with (first
                    | (go_at_call 43; refine HN1.out.mono ?_; clear HN1; rintro e W5 ⟨rfl, rfl⟩)
                    | (go_at_call 43; refine HN2.out.mono ?_; clear HN2; rintro e W6 ⟨rfl, rfl⟩)
                    | (at_builtin; go_loud (refine wpList_append_own_at _ rfl _ _ 22 rfl W.heap.size 71 i0 (.agg #[.int .u64 0, .int .u64 0]) 2 16 Try.underlying22 hi hz0 hz1 hz2 rfl (by decide) _ _ _ rfl (row_chg0 HX.out.row (by repeat' (first | refine Chg.setCell ?_ (fun h => absurd h (Nat.lt_irrefl _)) _ | refine Chg.alloc ?_ _ | refine chg_drewL ?_ _ | refine Chg.drew ?_ | exact Chg.refl _ _))) ⟨_, 0, none⟩ 1 1 [.int .u64 (k : Int), .int .u64 (v : Int)] rfl rfl (cells_newE _ _ (by simp) _ _) (by intro u hu; simp at hu; rcases hu with rfl | rfl <;> rfl) (by unfold maxLen; have := HX.out.len (by have := HNN.out; omega); omega) (by have := HX.out.len (by have := HNN.out; omega); omega) (Nat.le_trans HX.out.bel.size (Chg.size (F := fun _ => False) (by repeat' (first | refine Chg.setCell ?_ (fun h => absurd h (Nat.lt_irrefl _)) _ | refine Chg.alloc ?_ _ | refine chg_drewL ?_ _ | refine Chg.drew ?_ | exact Chg.refl _ _)))) ?_); intro v' w3 r1 r2 r3 r4; have R2 := keepH (HX.out.more HS8.out hlt HPR.out (by repeat' (first | refine Chg.setCell ?_ (fun h => absurd h (Nat.lt_irrefl _)) _ | refine Chg.alloc ?_ _ | refine chg_drewL ?_ _ | refine Chg.drew ?_ | exact Chg.refl _ _)) r1 r2); clear r1 r2 r3 r4))
                  go_roundw
                  case rel => exact ⟨m2, k, l ++ [(k, v)], by first | rfl | go_num, by first | rfl | go_num, by simp, by rw [List.length_append]; simp only [List.length_cons, List.length_nil]; omega, keepH (by rw [lastK_add]; rfl), keepH R2.out⟩
                  case measure => simp [intOf]; omega
                · have t2 : ((e2 : Int) != 0) = true := by simp; omega
                  have HN2 := keepH (e_number_badN HNN.out (HH.out.chg (below_chgE HX.out.bel) (fun _ _ _ x => x)) c (j + u1) hju1 hn HR2.out he2)
                  have HPR : Hid (rdPr bs j (lastK l) = ((0, 0), e2, j + u1 + u2)) := keepH (by unfold rdPr; rw [HR1.out]; rw [HLK.out]; simp [badK]; simp [HR2.out, he2])
                  have HA := keepH (rdA_2 HM4.out (by rw [HC4.out]; exact HX.out.bad hlt HPR.out he2) he2)
                  go_wp2_with (first
                    | (go_at_call 43; refine HN1.out.mono ?_; clear HN1; rintro e W5 ⟨rfl, rfl⟩)
                    | (go_at_call 43; refine HN2.out.mono ?_; clear HN2; rintro e W6 ⟨rfl, rfl⟩))
                  go_ret3
                  exact ⟨none, 0, [], _, _, HA.out, rfl, .inl rfl, HX.out.bel⟩
              · have hlN : decide (0 < l.length) = true := decide_eq_true (by omega)
                obtain ⟨⟨lk, lv⟩, hx, hlk⟩ := last_of (show 0 < l.length by omega)
                have hlk64 : lk < 18446744073709551616 := (HX.out.sm _ (List.mem_of_getElem? hx)).1
                have HLK := keepH hlk
                simp only at HLK
                obtain rfl : la = lk := by rw [HLA.out, HLK.out]; rfl
                clear hx hlk hl0
                by_cases hk0 : k = 0
                · have t3 : ((k : Int) == 0) = true := by simp; omega
                  have HPR : Hid (rdPr bs j (lastK l) = ((0, 0), 271, j)) := keepH (by unfold rdPr; rw [HR1.out, HLK.out]; simp [badK, hk0])
                  clear hk0
                  have HA := keepH (rdA_2 (l := []) (e := 271) (i := j) HM4.out (by rw [HC4.out]; exact HX.out.bad hlt HPR.out (by decide)) (by decide))
                  go_wp2_with (first | (go_at_call 43; refine HN1.out.mono ?_; clear HN1; rintro e W5 ⟨rfl, rfl⟩))
                  go_ret3
                  exact ⟨none, 0, [], _, _, HA.out, rfl, .inl rfl, HX.out.bel⟩
                · have t3 : ((k : Int) == 0) = false := by simp; omega
                  by_cases hkm : 18446744073709551615 - la < k
                  · have hov : IntKind.u64.wrap ((la : Int) + (k : Int)) = (la : Int) + (k : Int) - 18446744073709551616 := by rw [IntKind.wrap_u64]; omega
                    have t4 : decide ((la : Int) + (k : Int) - 18446744073709551616 < (la : Int)) = true := decide_eq_true (by omega)
                    have HPR : Hid (rdPr bs j (lastK l) = ((0, 0), 271, j)) := keepH (by unfold rdPr; rw [HR1.out, HLK.out]; simp [badK, hkm])
                    have HA := keepH (rdA_2 (l := []) (e := 271) (i := j) HM4.out (by rw [HC4.out]; exact HX.out.bad hlt HPR.out (by decide)) (by decide))
                    go_wp2_with (first | (go_at_call 43; refine HN1.out.mono ?_; clear HN1; rintro e W5 ⟨rfl, rfl⟩))
                    go_ret3
                    exact ⟨none, 0, [], _, _, HA.out, rfl, .inl rfl, HX.out.bel⟩
                  · skip
                    obtain ⟨r2, hr2⟩ : ∃ r, r = rdN (bs.drop (j + u1)) 0 0 := ⟨_, rfl⟩
                    obtain ⟨v, e2, u2⟩ := r2
                    have HR2 := keepH hr2.symm
                    clear hr2
                    obtain ⟨kk, hkk⟩ : ∃ kk, kk = k + la := ⟨_, rfl⟩
                    have hsum : ((la : Int) + (k : Int)) = (kk : Int) := by omega
                    have hkk64 : kk < 18446744073709551616 := by omega
                    have t4 : decide ((kk : Int) < (la : Int)) = false := decide_eq_false (by omega)
                    have t5 : ¬ (kk : Int) < (la : Int) := by omega
                    have HKK := keepH hkk.symm
                    clear hkk
                    by_cases he2 : e2 = 0
                    · subst he2
                      have HN2 := keepH (e_number_okN HNN.out (HH.out.chg (below_chgE HX.out.bel) (fun _ _ _ x => x)) c (j + u1) hju1 hn HR2.out)
                      have HPR : Hid (rdPr bs j (lastK l) = ((kk, v), 0, j + u1 + u2)) := keepH (by unfold rdPr; rw [HR1.out]; rw [HLK.out]; simp [badK, hk0, hkm]; simp [HR2.out, HKK.out])
                      obtain ⟨m1, hm1⟩ : ∃ m, m = j + u1 := ⟨_, rfl⟩
                      obtain ⟨m2, hm2⟩ : ∃ m, m = m1 + u2 := ⟨_, rfl⟩
                      rw [← hm1] at HN1 HN2 HPR
                      rw [← hm2] at HN2 HPR
                      clear hm1 hm2 hju1 
                      go_wp2_with (first
                        | (go_at_call 43; refine HN1.out.mono ?_; clear HN1; rintro e W5 ⟨rfl, rfl⟩)
                        | (go_at_call 43; refine HN2.out.mono ?_; clear HN2; rintro e W6 ⟨rfl, rfl⟩)
                        | (at_builtin; go_loud (refine wpList_append_own_at _ rfl _ _ 22 rfl W.heap.size 71 i0 (.agg #[.int .u64 0, .int .u64 0]) 2 16 Try.underlying22 hi hz0 hz1 hz2 rfl (by decide) _ _ _ rfl (row_chg0 HX.out.row (by repeat' (first | refine Chg.setCell ?_ (fun h => absurd h (Nat.lt_irrefl _)) _ | refine Chg.alloc ?_ _ | refine chg_drewL ?_ _ | refine Chg.drew ?_ | exact Chg.refl _ _))) ⟨_, 0, none⟩ 1 1 [.int .u64 (kk : Int), .int .u64 (v : Int)] rfl rfl (cells_newE _ _ (by simp) _ _) (by intro u hu; simp at hu; rcases hu with rfl | rfl <;> rfl) (by unfold maxLen; have := HX.out.len (by have := HNN.out; omega); omega) (by have := HX.out.len (by have := HNN.out; omega); omega) (Nat.le_trans HX.out.bel.size (Chg.size (F := fun _ => False) (by repeat' (first | refine Chg.setCell ?_ (fun h => absurd h (Nat.lt_irrefl _)) _ | refine Chg.alloc ?_ _ | refine chg_drewL ?_ _ | refine Chg.drew ?_ | exact Chg.refl _ _)))) ?_); intro v' w3 r1 r2 r3 r4; have R2 := keepH (HX.out.more HS8.out hlt HPR.out (by repeat' (first | refine Chg.setCell ?_ (fun h => absurd h (Nat.lt_irrefl _)) _ | refine Chg.alloc ?_ _ | refine chg_drewL ?_ _ | refine Chg.drew ?_ | exact Chg.refl _ _)) r1 r2); clear r1 r2 r3 r4))
                      go_roundw
                      case rel => exact ⟨m2, kk, l ++ [(kk, v)], by first | rfl | go_num, by first | rfl | go_num, by simp, by rw [List.length_append]; simp only [List.length_cons, List.length_nil]; omega, keepH (by rw [lastK_add]; rfl), keepH R2.out⟩
                      case measure => simp [intOf]; omega
                    · have t2 : ((e2 : Int) != 0) = true := by simp; omega
                      have HN2 := keepH (e_number_badN HNN.out (HH.out.chg (below_chgE HX.out.bel) (fun _ _ _ x => x)) c (j + u1) hju1 hn HR2.out he2)
                      have HPR : Hid (rdPr bs j (lastK l) = ((0, 0), e2, j + u1 + u2)) := keepH (by unfold rdPr; rw [HR1.out]; rw [HLK.out]; simp [badK, hk0, hkm]; simp [HR2.out, he2])
                      have HA := keepH (rdA_2 HM4.out (by rw [HC4.out]; exact HX.out.bad hlt HPR.out he2) he2)
                      go_wp2_with (first
                        | (go_at_call 43; refine HN1.out.mono ?_; clear HN1; rintro e W5 ⟨rfl, rfl⟩)
                        | (go_at_call 43; refine HN2.out.mono ?_; clear HN2; rintro e W6 ⟨rfl, rfl⟩))
                      go_ret3
                      exact ⟨none, 0, [], _, _, HA.out, rfl, .inl rfl, HX.out.bel⟩
            · have t1 : ((e1 : Int) != 0) = true := by simp; omega
              have HN1 := keepH (e_number_badN HNN.out (HH.out.chg (below_chgE HX.out.bel) (fun _ _ _ x => x)) c j hj hn HR1.out he1)
              have HPR : Hid (rdPr bs j (lastK l) = ((0, 0), e1, j + u1)) := keepH (by unfold rdPr; rw [HR1.out]; simp [he1])
              have HE := keepH he1
              have HA := keepH (rdA_2 HM4.out (by rw [HC4.out]; exact HX.out.bad hlt HPR.out he1) he1)
              go_wp2_with (first | (go_at_call 43; refine HN1.out.mono ?_; clear HN1; rintro e W5 ⟨rfl, rfl⟩))
              go_ret3
              exact ⟨none, 0, [], _, _, HA.out, rfl, .inl rfl, HX.out.bel⟩
          · have q1 : ¬ (l.length : Int) < (n : Int) := by omega
            have HC5 : Hid (rdC bs 4 = (l, 0, j)) := keepH (by rw [HC4.out]; exact HX.out.fin hlt)
            have hj : j ≤ N := by have := HX.out.hj; have := HNN.out; omega
            by_cases h4 : N - j < 4
            · have t4 : ((N : Int) - (j : Int)) < 4 := by omega
              have HA := keepH (rdA_3 (e := 270) (k := N) HM4.out HC5.out (by rw [rdS_short (by have := HNN.out; omega), HNN.out]) (by decide))
              clear h4
              go_wp2_with fail
              go_ret3
              exact ⟨none, 0, [], _, _, HA.out, rfl, .inl rfl, HX.out.bel⟩
            · have t4 : ¬ ((N : Int) - (j : Int)) < 4 := by omega
              have hj4 : j + 4 ≤ N := by omega
              have li : (bs.take j).length = j := by have := HNN.out; simp; omega
              have hcuti := cut_to p N c j (by omega)
              have HSum : Hid (Calls Try.prog 41 #[.slice p j c] wr fun e W' => e = .returned (.int .u32 (sumF (bs.take j) : Int)) ∧ W' = wr) := keepH (by
                have := e_sum ((HH.out.chg (below_chgE HX.out.bel) (fun _ _ _ x => x)).take j) c (by rw [li]; omega)
                rw [li] at this
                exact this)
              obtain ⟨s, hs⟩ : ∃ s, s = sumF (bs.take j) := ⟨_, rfl⟩
              have hs32 : s < 4294967296 := by rw [hs]; exact sumF_lt _
              rw [← hs] at HSum
              have HSV := keepH hs
              clear hs li
              go_wp2_with (first | (go_at_call 41; refine HSum.out.mono ?_; clear HSum; rintro e W7 ⟨rfl, rfl⟩))
              go_loopw [16] (fun ii wr2 => ∃ i : Nat, i ≤ 4 ∧ ii = .int .i64 (i : Int) ∧ Hid ((bs.drop j).take i = (sum4 s).take i ∧ Below W.heap.size W wr2) ∧ Hid (Chg (fun _ => False) W7 wr2)) (fun ii _ => 4 - (intOf ii).toNat)
              case atStart => exact ⟨0, by omega, rfl, keepH ⟨by simp, HX.out.bel⟩, keepH (Chg.refl _ _)⟩
              case round =>
                obtain ⟨i, hi4, rfl, HY, HYC⟩ := hrel
                have h5 : i = 0 ∨ i = 1 ∨ i = 2 ∨ i = 3 ∨ i = 4 := by omega
                rcases h5 with rfl | rfl | rfl | rfl | rfl
                · skip
                  obtain ⟨q, hq⟩ : ∃ q, bs[j + 0]? = some q := ⟨bs[j + 0]'(by have := HNN.out; omega), List.getElem?_eq_getElem _⟩
                  obtain ⟨bk, off, rfl, hbk, hcs⟩ := (HH.out.chg (below_chgE HY.out.2) (fun _ _ _ x => x)).resolve_left (by intro e; subst e; simp at hq)
                  obtain ⟨hq8, d0⟩ := hcs _ _ hq
                  obtain ⟨m, hm⟩ : ∃ m, m = j + 0 := ⟨_, rfl⟩
                  have hadd : (j : Int) = (m : Int) := by omega
                  have hix : (m : Int) < (N : Int) := by omega
                  rw [← hm] at d0
                  have HQ := keepH hq
                  clear hq hcs hm
                  by_cases hs : (q : Int) = ((s : Int) % 256)
                  · have t1 : ((q : Int) != ((s : Int) % 256)) = false := by simp [hs]
                    have HQS := keepH hs
                    clear hs
                    go_wp2_with fail
                    go_quiet (fail)
                    go_wp2_with fail
                    go_roundw
                    case rel => exact ⟨1, by omega, by first | rfl | go_num, keepH ⟨by rw [take_at HQ.out, HY.out.1, sum4_take s 0 (by omega)]; exact congrArg (fun z => _ ++ [z]) (by have z := HQS.out; have p : (256 : Nat) ^ 0 = 1 := rfl; rw [p]; omega), below_drew HY.out.2 _⟩, keepH (chg_drewL HYC.out _)⟩
                    case measure => simp [intOf]
                  · have t1 : ((q : Int) != ((s : Int) % 256)) = true := by simpa using hs
                    have HA := keepH (rdA_3 (e := 271) (k := j) HM4.out HC5.out (rdS_bad (by have := HNN.out; omega) HSV.out (fun z => hs (by
                      have w := congrArg (fun y : List Nat => y[0]?) z
                      simp only [sum4] at w
                      rw [List.getElem?_take_of_lt (by omega), List.getElem?_drop, HQ.out] at w
                      simp at w
                      omega))) (by decide))
                    clear hs
                    go_wp2_with fail
                    go_quiet (fail)
                    go_wp2_with fail
                    go_ret3
                    exact ⟨none, 0, [], _, _, HA.out, rfl, .inl rfl, below_drew HY.out.2 _⟩
                · skip
                  obtain ⟨q, hq⟩ : ∃ q, bs[j + 1]? = some q := ⟨bs[j + 1]'(by have := HNN.out; omega), List.getElem?_eq_getElem _⟩
                  obtain ⟨bk, off, rfl, hbk, hcs⟩ := (HH.out.chg (below_chgE HY.out.2) (fun _ _ _ x => x)).resolve_left (by intro e; subst e; simp at hq)
                  obtain ⟨hq8, d0⟩ := hcs _ _ hq
                  obtain ⟨m, hm⟩ : ∃ m, m = j + 1 := ⟨_, rfl⟩
                  have hadd : ((j : Int) + 1) = (m : Int) := by omega
                  have hix : (m : Int) < (N : Int) := by omega
                  rw [← hm] at d0
                  have HQ := keepH hq
                  clear hq hcs hm
                  by_cases hs : (q : Int) = ((s : Int) / 256 % 256)
                  · have t1 : ((q : Int) != ((s : Int) / 256 % 256)) = false := by simp [hs]
                    have HQS := keepH hs
                    clear hs
                    go_wp2_with fail
                    go_quiet (fail)
                    go_wp2_with fail
                    go_roundw
                    case rel => exact ⟨2, by omega, by first | rfl | go_num, keepH ⟨by rw [take_at HQ.out, HY.out.1, sum4_take s 1 (by omega)]; exact congrArg (fun z => _ ++ [z]) (by have z := HQS.out; have p : (256 : Nat) ^ 1 = 256 := rfl; rw [p]; omega), below_drew HY.out.2 _⟩, keepH (chg_drewL HYC.out _)⟩
                    case measure => simp [intOf]
                  · have t1 : ((q : Int) != ((s : Int) / 256 % 256)) = true := by simpa using hs
                    have HA := keepH (rdA_3 (e := 271) (k := j) HM4.out HC5.out (rdS_bad (by have := HNN.out; omega) HSV.out (fun z => hs (by
                      have w := congrArg (fun y : List Nat => y[1]?) z
                      simp only [sum4] at w
                      rw [List.getElem?_take_of_lt (by omega), List.getElem?_drop, HQ.out] at w
                      simp at w
                      omega))) (by decide))
                    clear hs
                    go_wp2_with fail
                    go_quiet (fail)
                    go_wp2_with fail
                    go_ret3
                    exact ⟨none, 0, [], _, _, HA.out, rfl, .inl rfl, below_drew HY.out.2 _⟩
                · skip
                  obtain ⟨q, hq⟩ : ∃ q, bs[j + 2]? = some q := ⟨bs[j + 2]'(by have := HNN.out; omega), List.getElem?_eq_getElem _⟩
                  obtain ⟨bk, off, rfl, hbk, hcs⟩ := (HH.out.chg (below_chgE HY.out.2) (fun _ _ _ x => x)).resolve_left (by intro e; subst e; simp at hq)
                  obtain ⟨hq8, d0⟩ := hcs _ _ hq
                  obtain ⟨m, hm⟩ : ∃ m, m = j + 2 := ⟨_, rfl⟩
                  have hadd : ((j : Int) + 2) = (m : Int) := by omega
                  have hix : (m : Int) < (N : Int) := by omega
                  rw [← hm] at d0
                  have HQ := keepH hq
                  clear hq hcs hm
                  by_cases hs : (q : Int) = ((s : Int) / 65536 % 256)
                  · have t1 : ((q : Int) != ((s : Int) / 65536 % 256)) = false := by simp [hs]
                    have HQS := keepH hs
                    clear hs
                    go_wp2_with fail
                    go_quiet (fail)
                    go_wp2_with fail
                    go_roundw
                    case rel => exact ⟨3, by omega, by first | rfl | go_num, keepH ⟨by rw [take_at HQ.out, HY.out.1, sum4_take s 2 (by omega)]; exact congrArg (fun z => _ ++ [z]) (by have z := HQS.out; have p : (256 : Nat) ^ 2 = 65536 := rfl; rw [p]; omega), below_drew HY.out.2 _⟩, keepH (chg_drewL HYC.out _)⟩
                    case measure => simp [intOf]
                  · have t1 : ((q : Int) != ((s : Int) / 65536 % 256)) = true := by simpa using hs
                    have HA := keepH (rdA_3 (e := 271) (k := j) HM4.out HC5.out (rdS_bad (by have := HNN.out; omega) HSV.out (fun z => hs (by
                      have w := congrArg (fun y : List Nat => y[2]?) z
                      simp only [sum4] at w
                      rw [List.getElem?_take_of_lt (by omega), List.getElem?_drop, HQ.out] at w
                      simp at w
                      omega))) (by decide))
                    clear hs
                    go_wp2_with fail
                    go_quiet (fail)
                    go_wp2_with fail
                    go_ret3
                    exact ⟨none, 0, [], _, _, HA.out, rfl, .inl rfl, below_drew HY.out.2 _⟩
                · skip
                  obtain ⟨q, hq⟩ : ∃ q, bs[j + 3]? = some q := ⟨bs[j + 3]'(by have := HNN.out; omega), List.getElem?_eq_getElem _⟩
                  obtain ⟨bk, off, rfl, hbk, hcs⟩ := (HH.out.chg (below_chgE HY.out.2) (fun _ _ _ x => x)).resolve_left (by intro e; subst e; simp at hq)
                  obtain ⟨hq8, d0⟩ := hcs _ _ hq
                  obtain ⟨m, hm⟩ : ∃ m, m = j + 3 := ⟨_, rfl⟩
                  have hadd : ((j : Int) + 3) = (m : Int) := by omega
                  have hix : (m : Int) < (N : Int) := by omega
                  rw [← hm] at d0
                  have HQ := keepH hq
                  clear hq hcs hm
                  by_cases hs : (q : Int) = ((s : Int) / 16777216)
                  · have t1 : ((q : Int) != ((s : Int) / 16777216)) = false := by simp [hs]
                    have HQS := keepH hs
                    clear hs
                    go_wp2_with fail
                    go_quiet (fail)
                    go_wp2_with fail
                    go_roundw
                    case rel => exact ⟨4, by omega, by first | rfl | go_num, keepH ⟨by rw [take_at HQ.out, HY.out.1, sum4_take s 3 (by omega)]; exact congrArg (fun z => _ ++ [z]) (by have z := HQS.out; have p : (256 : Nat) ^ 3 = 16777216 := rfl; rw [p]; omega), below_drew HY.out.2 _⟩, keepH (chg_drewL HYC.out _)⟩
                    case measure => simp [intOf]
                  · have t1 : ((q : Int) != ((s : Int) / 16777216)) = true := by simpa using hs
                    have HA := keepH (rdA_3 (e := 271) (k := j) HM4.out HC5.out (rdS_bad (by have := HNN.out; omega) HSV.out (fun z => hs (by
                      have w := congrArg (fun y : List Nat => y[3]?) z
                      simp only [sum4] at w
                      rw [List.getElem?_take_of_lt (by omega), List.getElem?_drop, HQ.out] at w
                      simp at w
                      omega))) (by decide))
                    clear hs
                    go_wp2_with fail
                    go_quiet (fail)
                    go_wp2_with fail
                    go_ret3
                    exact ⟨none, 0, [], _, _, HA.out, rfl, .inl rfl, below_drew HY.out.2 _⟩
                · have HS4 : Hid (rdS bs j = (0, j + 4)) := keepH (rdS_ok (by have := HNN.out; omega) HSV.out HY.out.1)
                  obtain ⟨m4, hm4⟩ : ∃ m4, m4 = j + 4 := ⟨_, rfl⟩
                  have hadd4 : ((j : Int) + 4) = (m4 : Int) := by omega
                  rw [← hm4] at HS4
                  by_cases hmore : m4 = N
                  · have t6 : ¬ (m4 : Int) < (N : Int) := by omega
                    have HA := keepH (rdA_5 HM4.out HC5.out HS4.out (by rw [hmore]; exact HNN.out))
                    clear hmore hm4
                    go_wp2_with fail
                    go_ret3
                    obtain ⟨pq, cq, hsv, hat, _⟩ := row_prC HX.out.row HX.out.sm
                    subst hsv
                    exact ⟨pq, cq, l, 0, 0, HA.out, rfl, hat.chgF HYC.out (fun _ _ _ x => x), HY.out.2⟩
                  · have t6 : (m4 : Int) < (N : Int) := by omega
                    have HA := keepH (rdA_4 HM4.out HC5.out HS4.out (by rw [← HNN.out]; exact hmore))
                    clear hmore hm4
                    go_wp2_with fail
                    go_ret3
                    exact ⟨none, 0, [], _, _, HA.out, rfl, .inl rfl, HY.out.2⟩
      · have t1 : ((e0 : Int) != 0) = true := by simp; omega
        have HN0 := keepH (e_number_badN HNN.out (HH.out.chg (below_chgE HB1.out) (fun _ _ _ x => x)) c 4 h4b hn HR0.out he0)
        have HC4 : Hid (rdC bs 4 = ([], e0, 4 + u0)) := keepH (by unfold rdC; rw [HR0.out]; simp [he0])
        have HA := keepH (rdA_2 HM4.out HC4.out he0)
        go_wp2_with (first | (go_at_call 43; refine HN0.out.mono ?_; clear HN0; rintro e W3 ⟨rfl, rfl⟩))
        go_ret3
        exact ⟨none, 0, [], _, _, HA.out, rfl, .inl rfl, HB1.out⟩
end Go.Proofs.Ytbmfjcdafjknaaa
/- Bytes handed in with marked places behind them, and looked at again. -/
namespace Go.Proofs.Ytbmfjcdafjknaaa
open Go.RowKit Go.Shelf
set_option linter.unusedVariables false

/-- What Hand leaves: a row of the call's own with the numbers in front and the marks behind. -/
def HandedB (W : World) (g n : Nat) (zs : Nat → Int) : Prop :=
  (∀ j, j < n → W.cell? ⟨g, j, none⟩ = some (.int .u8 (zs j))) ∧ ∀ j, j < 9 → W.cell? ⟨g, n + j, none⟩ = some (.int .u8 (160 + (j : Int)))

def RowB (W : World) (base g N : Nat) (xs : List Value) : Prop := W.ownsRow base 5 1 (.slice (some ⟨g, 0, none⟩) N N) N xs

theorem RowB.at {W : World} {base g N : Nat} {xs : List Value} (h : RowB W base g N xs) (j : Nat) (hj : j < N) : ∃ v, W.cell? ⟨g, j, none⟩ = some v ∧ W.frozen? ⟨g, j, none⟩ = false := by
  have e := World.ownsRow.cellAt h j (by omega)
  have l : xs.length = N := by have := h.1; omega
  have f := World.ownsRow.frozenAt h j
  exact ⟨xs[j]'(by omega), by rw [e]; simp, f⟩
theorem RowB.put {W : World} {base g N : Nat} {xs : List Value} (h : RowB W base g N xs) (j : Nat) (u : Value) : RowB (W.setCell ⟨g, j, none⟩ u) base g N (xs.set j u) := (World.ownsRow.stored h j u).1
theorem RowB.base {W : World} {base g N : Nat} {xs : List Value} (h : RowB W base g N xs) : base ≤ g ∧ g < W.heap.size := by
  rcases h.2 with ⟨h', _⟩ | ⟨g', cap', cur, h', hb, hg, _⟩
  · simp at h'
  · simp only [Value.slice.injEq, Option.some.injEq, Addr.mk.injEq, and_true, true_and] at h'
    obtain ⟨rfl, _⟩ := h'
    exact ⟨hb, (Array.getElem?_eq_some_iff.1 hg).1⟩

theorem setb_keep {xs : List Value} {f : Nat → Value} {k N : Nat} (hN : xs.length = N) (hk : k < N) (h : ∀ j, j < k → xs[j]? = some (f j)) : ∀ j, j < k + 1 → (xs.set k (f k))[j]? = some (f j) := by
  intro j hj
  rw [List.getElem?_set]
  by_cases e : k = j
  · subst e; simp; omega
  · rw [if_neg e]; exact h j (by omega)
theorem setb_other {xs : List Value} {f : Nat → Value} {k m : Nat} (u : Value) (hm : m ≤ k) (h : ∀ j, j < m → xs[j]? = some (f j)) : ∀ j, j < m → (xs.set k u)[j]? = some (f j) := by
  intro j hj
  rw [List.getElem?_set, if_neg (by omega)]
  exact h j hj
theorem RowB.cells {W : World} {base g N : Nat} {xs : List Value} (h : RowB W base g N xs) (j : Nat) (hj : j < N) {v : Value} (e : xs[j]? = some v) : W.cell? ⟨g, j, none⟩ = some v := (World.ownsRow.cellAt h j (by omega)).trans e

set_option maxRecDepth 100000 in
set_option maxHeartbeats 2000000 in
theorem handb_some (b off n c : Nat) (zs : Nat → Int) (w : World) (hn : n ≤ 1000000000) (hb : b < w.heap.size) (hu : ∀ j, j < n → w.cell? ⟨b, off + j, none⟩ = some (.int .u8 (zs j))) :
    Calls Try.prog 10 #[.slice (some ⟨b, off, none⟩) n c] w fun e W' => ∃ g, e = .returned (.slice (some ⟨g, 0, none⟩) n (n + 9)) ∧ w.heap.size ≤ g ∧ g < W'.heap.size ∧ HandedB W' g n zs ∧ Below w.heap.size w W' := by
  obtain ⟨i0, hi, hz0, hz1, hz2⟩ := info_parts infoU8
  have HU := keepH hu
  clear hu
  go_enter Try.func10, Try.ntmps10
  go_wp2_with (at_make; refine wpList_make_full _ rfl _ _ 23 rfl w.heap.size 5 i0 (.int .u8 0) 1 Try.underlying23 hi hz0 hz1 .i64 .i64 _ _ (n + 9) rfl rfl (by omega) (by omega) (by rw [hz2]; omega) (by unfold maxLen; omega) (Nat.le_refl _) ?_; intro w1 hown1 hgrow1)
  have R1 : RowB w1 w.heap.size w.heap.size (n + 9) _ := hown1
  have B1 : Below w.heap.size w w1 := (Below.refl _ w).grown hgrow1 (Nat.le_refl _) (fun j ej => by cases ej)
  clear hown1 hgrow1
  go_loopw [4] (fun i wr => ∃ (k : Nat) (xs : List Value), k ≤ n ∧ i = .int .i64 (k : Int) ∧ Hid (RowB wr w.heap.size w.heap.size (n + 9) xs) ∧ Hid (∀ j, j < k → xs[j]? = some (.int .u8 (zs j))) ∧ Below w.heap.size w wr) (fun i _ => n - (intOf i).toNat)
  case atStart => exact ⟨0, _, by omega, rfl, R1, fun j hj => by omega, B1⟩
  case round =>
    obtain ⟨k, xs, hk, rfl, HR, HX, hB⟩ := hrel
    by_cases hlt : k < n
    · obtain ⟨v0, c0, f0⟩ := HR.out.at k (by omega)
      have x1 : wr.cell? ⟨b, off + k, none⟩ = some (.int .u8 (zs k)) := (hB.cell (p := ⟨b, off + k, none⟩) hb).trans (HU.out k hlt)
      have i1 : (k : Int) < (n : Int) := by omega
      have hl : xs.length = n + 9 := by have := HR.out.1; omega
      go_wp2_with fail
      go_roundw
      case rel => exact ⟨k + 1, _, by omega, by go_num, HR.out.put k (.int .u8 (zs k)), setb_keep (f := fun j => .int .u8 (zs j)) hl (by omega) HX.out, hB.setCell (p := ⟨w.heap.size, k, none⟩) (Nat.le_refl _) _⟩
      case measure => simp [intOf]; omega
    · obtain rfl : k = n := by omega
      have HX0 := HX
      go_wp2_with fail
      go_loopw [5] (fun i wr => ∃ (m : Nat) (xs : List Value), m ≤ 9 ∧ i = .int .i64 ((k : Int) + (m : Int)) ∧ Hid (RowB wr w.heap.size w.heap.size (k + 9) xs) ∧ Hid (∀ j, j < k → xs[j]? = some (.int .u8 (zs j))) ∧ Hid (∀ j, j < m → xs[k + j]? = some (.int .u8 (160 + (j : Int)))) ∧ Below w.heap.size w wr) (fun i _ => k + 9 - (intOf i).toNat)
      case atStart => exact ⟨0, _, by omega, by simp, HR, HX0, fun j hj => by omega, hB⟩
      case round =>
        obtain ⟨m, ys, hm, rfl, HS, HY, HZ, hC⟩ := hrel
        by_cases hlt2 : m < 9
        · obtain ⟨v0, c0, f0⟩ := HS.out.at (k + m) (by omega)
          have i1 : (k : Int) + (m : Int) < (k : Int) + 9 := by omega
          have hl : ys.length = k + 9 := by have := HS.out.1; omega
          go_wp2_with fail
          go_roundw
          case rel =>
            refine ⟨m + 1, _, by omega, by go_num, HS.out.put (k + m) _, setb_other _ (by omega) HY.out, fun j hj => ?_, hC.setCell (p := ⟨w.heap.size, k + m, none⟩) (Nat.le_refl _) _⟩
            rw [List.getElem?_set]
            by_cases e : m = j
            · subst e
              rw [if_pos rfl, if_pos (by omega)]
              exact congrArg (fun z : Int => some (Value.int .u8 z)) (by omega)
            · rw [if_neg (by omega)]
              exact HZ.out j (by omega)
          case measure => simp [intOf]; omega
        · obtain rfl : m = 9 := by omega
          go_wp2_with fail
          go_ret
          exact ⟨w.heap.size, rfl, Nat.le_refl _, HS.out.base.2, ⟨fun j hj => HS.out.cells j (by omega) (HY.out j hj), fun j hj => HS.out.cells (k + j) (by omega) (HZ.out j hj)⟩, hC⟩

set_option maxRecDepth 100000 in
set_option maxHeartbeats 2000000 in
theorem handb_zero (p : Option Addr) (c : Nat) (zs : Nat → Int) (w : World) :
    Calls Try.prog 10 #[.slice p 0 c] w fun e W' => ∃ g, e = .returned (.slice (some ⟨g, 0, none⟩) 0 9) ∧ w.heap.size ≤ g ∧ g < W'.heap.size ∧ HandedB W' g 0 zs ∧ Below w.heap.size w W' := by
  obtain ⟨i0, hi, hz0, hz1, hz2⟩ := info_parts infoU8
  go_enter Try.func10, Try.ntmps10
  go_wp2_with (at_make; refine wpList_make_full _ rfl _ _ 23 rfl w.heap.size 5 i0 (.int .u8 0) 1 Try.underlying23 hi hz0 hz1 .i64 .i64 _ _ 9 rfl rfl (by omega) (by omega) (by rw [hz2]; omega) (by unfold maxLen; omega) (Nat.le_refl _) ?_; intro w1 hown1 hgrow1)
  have R1 : RowB w1 w.heap.size w.heap.size 9 _ := hown1
  have B1 : Below w.heap.size w w1 := (Below.refl _ w).grown hgrow1 (Nat.le_refl _) (fun j ej => by cases ej)
  clear hown1 hgrow1
  go_loopw [4] (fun i wr => i = .int .i64 0 ∧ wr = w1) (fun _ _ => 0)
  case atStart => exact ⟨rfl, rfl⟩
  case round =>
    obtain ⟨rfl, rfl⟩ := hrel
    have HR := keepH R1
    have hB := B1
    have HX := keepH (show ∀ j, j < 0 → (madeCells (Value.int .u8 0).cells ((0 + 9) * 1)).toList[j]? = some (.int .u8 (zs j)) from fun j hj => by omega)
    clear R1 B1
    have HX0 := HX
    go_wp2_with fail
    go_loopw [5] (fun i wr => ∃ (m : Nat) (xs : List Value), m ≤ 9 ∧ i = .int .i64 ((m : Int)) ∧ Hid (RowB wr w.heap.size w.heap.size 9 xs) ∧ Hid (∀ j, j < 0 → xs[j]? = some (.int .u8 (zs j))) ∧ Hid (∀ j, j < m → xs[j]? = some (.int .u8 (160 + (j : Int)))) ∧ Below w.heap.size w wr) (fun i _ => 9 - (intOf i).toNat)
    case atStart => exact ⟨0, _, by omega, by simp, HR, HX0, fun j hj => by omega, hB⟩
    case round =>
      obtain ⟨m, ys, hm, rfl, HS, HY, HZ, hC⟩ := hrel
      by_cases hlt2 : m < 9
      · obtain ⟨v0, c0, f0⟩ := HS.out.at m (by omega)
        have i1 : (m : Int) < 9 := by omega
        have hl : ys.length = 9 := by have := HS.out.1; omega
        go_wp2_with fail
        go_roundw
        case rel =>
          refine ⟨m + 1, _, by omega, by go_num, HS.out.put m _, setb_other _ (by omega) HY.out, fun j hj => ?_, hC.setCell (p := ⟨w.heap.size, m, none⟩) (Nat.le_refl _) _⟩
          rw [List.getElem?_set]
          by_cases e : m = j
          · subst e
            rw [if_pos rfl, if_pos (by omega)]
            first | done | exact congrArg (fun z : Int => some (Value.int .u8 z)) (by omega)
          · rw [if_neg (by omega)]
            exact HZ.out j (by omega)
        case measure => simp [intOf]; omega
      · obtain rfl : m = 9 := by omega
        go_wp2_with fail
        go_ret
        exact ⟨w.heap.size, rfl, Nat.le_refl _, HS.out.base.2, ⟨fun j hj => HS.out.cells j (by omega) (HY.out j hj), fun j hj => HS.out.cells (0 + j) (by omega) (by rw [Nat.zero_add]; exact HZ.out j hj)⟩, hC⟩

theorem HandedB.chg {W X : World} {g n : Nat} {zs : Nat → Int} {F : Nat → Prop} (h : HandedB W g n zs) (c : Chg F W X) (hF : ¬ F g) : HandedB X g n zs := ⟨fun j hj => cell_chg c (h.1 j hj) hF, fun j hj => cell_chg c (h.2 j hj) hF⟩
theorem HandedB.bytes {W : World} {g : Nat} {l : List Nat} (h : HandedB W g l.length (fun j => ((l.getD j 0 : Nat) : Int))) (hg : g < W.heap.size) (hs : small8 l) : BytesAt W (some ⟨g, 0, none⟩) l := by
  refine .inr ⟨g, 0, rfl, hg, fun i x hx => ⟨hs x (List.mem_of_getElem? hx), ?_⟩⟩
  have hl := (List.getElem?_eq_some_iff.1 hx).1
  have e := h.1 i hl
  simp only [List.getD_eq_getElem?_getD, hx] at e
  simpa using e
theorem handb (p : Option Addr) (c : Nat) (l : List Nat) (W : World) (h : BytesAt W p l) (hn : l.length ≤ 1000000000) :
    Calls Try.prog 10 #[.slice p l.length c] W fun e W' => ∃ g, e = .returned (.slice (some ⟨g, 0, none⟩) l.length (l.length + 9)) ∧ W.heap.size ≤ g ∧ g < W'.heap.size ∧ HandedB W' g l.length (fun j => ((l.getD j 0 : Nat) : Int)) ∧ Below W.heap.size W W' := by
  rcases h with rfl | ⟨bk, off, rfl, hb, h⟩
  · exact handb_zero p c (fun j => ((([] : List Nat).getD j 0 : Nat) : Int)) W
  · exact handb_some bk off l.length c (fun j => ((l.getD j 0 : Nat) : Int)) W hn hb (fun j hj => by
      have := (h j _ (List.getElem?_eq_getElem hj)).2
      rw [this]
      simp [List.getD_eq_getElem?_getD, List.getElem?_eq_getElem hj])
set_option maxRecDepth 100000 in
set_option maxHeartbeats 2000000 in
theorem keptb (g : Nat) (p : Option Addr) (c : Nat) (l : List Nat) (w : World) (hh : HandedB w g l.length (fun j => ((l.getD j 0 : Nat) : Int))) (hg : g < w.heap.size) (h : BytesAt w p l) (hn : l.length ≤ 1000000000) :
    Calls Try.prog 19 #[.slice (some ⟨g, 0, none⟩) l.length (l.length + 9), .slice p l.length c] w fun e W' => e = .returned (.bool true) ∧ Chg (fun _ => False) w W' := by
  have HS := keepH (mem_same (HandedB.bytes hh hg h.small) h (l.length + 9) c (by omega))
  obtain ⟨n, hnn⟩ : ∃ n, n = l.length := ⟨_, rfl⟩
  rw [← hnn] at hh hn HS ⊢
  have HH := keepH hh
  clear hh h hnn hg
  go_enter Try.func19, Try.ntmps19
  go_wp2_with fail
  refine HS.out.mono ?_
  rintro e w1 ⟨rfl, C0⟩
  have C1 := below_chgE C0
  clear C0
  have H1 : Hid (∀ j, j < 9 → w1.cell? ⟨g, n + j, none⟩ = some (.int .u8 (160 + (j : Int)))) := fun j hj => cell_chg C1 (HH.out.2 j hj) (fun x => x)
  have HC := keepH C1
  clear C1
  go_wp2_with fail
  go_loopw [6] (fun i wr => ∃ m : Nat, m ≤ 9 ∧ i = .int .i64 ((n : Int) + (m : Int)) ∧ wr = w1) (fun i _ => n + 9 - (intOf i).toNat)
  case atStart => exact ⟨0, by omega, by simp, rfl⟩
  case round =>
    obtain ⟨m, hm, rfl, hw⟩ := hrel
    subst hw
    by_cases hlt : m < 9
    · have x1 := H1.out m hlt
      have e0 : (160 + ((n : Int) + (m : Int)) - (n : Int)) = 160 + (m : Int) := by omega
      have e1 : ((160 + (m : Int)) != (160 + (m : Int))) = false := by simp
      have i1 : (n : Int) + (m : Int) < (n : Int) + 9 := by omega
      go_wp2_with fail
      go_roundw
      case rel => exact ⟨m + 1, by omega, by go_num, (by first | rfl | trivial)⟩
      case measure => simp [intOf]; omega
    · obtain rfl : m = 9 := by omega
      go_wp2_with fail
      go_ret
      exact ⟨by simp, HC.out⟩
end Go.Proofs.Ytbmfjcdafjknaaa
/- DumpCodes, walked. -/
namespace Go.Proofs.Ytbmfjcdafjknaaa
open Go.RowKit Go.Joins
set_option linter.unusedVariables false

/-- What Encode tells: bytes, or none and an error. -/
def el (l : List (Nat × Nat)) : List Nat := if riseB l then encL l else []
def ee (l : List (Nat × Nat)) : Int := if riseB l then 0 else 52
theorem el_len {l : List (Nat × Nat)} (hs : small64 l) (hl : l.length ≤ 10000000) : (el l).length ≤ 1000000000 := by
  unfold el
  split
  · exact encL_le hs hl
  · simp
theorem enc_any {W : World} {p : Option Addr} {l : List (Nat × Nat)} (H : PairsAt W p l) (c : Nat) (hl : l.length ≤ 10000000) :
    Calls Try.prog 11 #[.slice p l.length c] W fun e W' => (∃ p1 c1, e = .returned (.tuple #[.slice p1 (el l).length c1, .int .i64 (ee l)]) ∧ BytesAt W' p1 (el l)) ∧ Below W.heap.size W W' := by
  cases hr : riseB l with
  | true =>
    have e1 : el l = encL l := by simp [el, hr]
    have e2 : ee l = 0 := by simp [ee, hr]
    rw [e1, e2]
    refine (enc_yes H c hl hr).mono ?_
    rintro e W1 ⟨⟨v, rfl, r⟩, hb⟩
    obtain ⟨p1, c1, rfl, hat, _⟩ := brow_caps r
    exact ⟨⟨p1, c1, rfl, hat⟩, hb⟩
  | false =>
    have e1 : el l = [] := by simp [el, hr]
    have e2 : ee l = 52 := by simp [ee, hr]
    rw [e1, e2]
    refine (enc_no H c hl hr).mono ?_
    rintro e W1 ⟨rfl, hb⟩
    exact ⟨⟨none, 0, rfl, .inl rfl⟩, hb⟩
theorem e_enc_any {W : World} {p : Option Addr} {l : List (Nat × Nat)} (H : PairsAt W p l) (c : Nat) (hl : l.length ≤ 10000000) :
    Calls Try.prog 12 #[.slice p l.length c] W fun e W' => (∃ p1 c1, e = .returned (.tuple #[.slice p1 (el l).length c1, .int .i64 (ee l)]) ∧ BytesAt W' p1 (el l)) ∧ Below W.heap.size W W' := by
  cases hr : riseB l with
  | true =>
    have e1 : el l = encL l := by simp [el, hr]
    have e2 : ee l = 0 := by simp [ee, hr]
    rw [e1, e2]
    refine (e_enc_yes H c hl hr).mono ?_
    rintro e W1 ⟨⟨v, rfl, r⟩, hb⟩
    obtain ⟨p1, c1, rfl, hat, _⟩ := brow_caps r
    exact ⟨⟨p1, c1, rfl, hat⟩, hb⟩
  | false =>
    have e1 : el l = [] := by simp [el, hr]
    have e2 : ee l = 52 := by simp [ee, hr]
    rw [e1, e2]
    refine (e_enc_no H c hl hr).mono ?_
    rintro e W1 ⟨rfl, hb⟩
    exact ⟨⟨none, 0, rfl, .inl rfl⟩, hb⟩
set_option maxRecDepth 100000 in
set_option maxHeartbeats 4000000 in
theorem codes_walk {W : World} {pa pc : Option Addr} {la : List (Nat × Nat)} {bs : List Nat} (HA : PairsAt W pa la) (HC : BytesAt W pc bs) {ca cc : Nat} (hcc : bs.length ≤ cc ∧ cc ≤ 9223372036854775807) (hla : la.length ≤ 1048576) (hbs : bs.length ≤ 1048576) :
    Calls Try.prog 3 #[.slice pa la.length ca, .slice pc bs.length cc] W fun e W' => e = .returned (.bool true) ∧ Below W.heap.size W W' := by
  have HAA : Hid (∀ X, Below W.heap.size W X → PairsAt X pa la) := keepH (fun X h => HA.chgF (below_chgE h) (fun _ _ _ x => x))
  have HCC : Hid (∀ X, Below W.heap.size W X → BytesAt X pc bs) := keepH (fun X h => HC.chg (below_chgE h) (fun _ _ _ x => x))
  have HS8 := keepH HC.small
  have H1 := keepH (lent_any HA ca (by omega))
  have H2 := keepH (fun X h => handb pc cc bs X (HCC.out X h) (by omega))
  have E1 := keepH (fun X (x : Option Addr) c (h1 : PairsAt X x la) => enc_any h1 c (by omega))
  have E2 := keepH (fun X h => e_enc_any (HAA.out X h) ca (by omega))
  have D1 := keepH (fun X (x : Option Addr) c (h1 : BytesAt X x bs) (k : bs.length ≤ c ∧ c ≤ 9223372036854775807) => decode_any h1 k (by omega))
  have D2 := keepH (fun X h => e_decode (HCC.out X h) (N := bs.length) rfl hcc (by omega))
  have HLL : Hid ((rdA bs).1.length ≤ bs.length) := keepH (by
    by_cases h : (rdA bs).2.1 = 0
    · have := encL_ge (rdA bs).1
      rw [(enc_dec HC.small h).2.2] at this
      exact this
    · rw [rdA_none bs h]; simp)
  have hel := el_len HA.small (show la.length ≤ 10000000 by omega)
  obtain ⟨x, hx⟩ : ∃ x, x = el la := ⟨_, rfl⟩
  obtain ⟨ex, hex⟩ : ∃ e, e = ee la := ⟨_, rfl⟩
  rw [← hx, ← hex] at E1 E2
  rw [← hx] at hel
  obtain ⟨r, hr⟩ : ∃ r, r = rdA bs := ⟨_, rfl⟩
  rw [← hr] at D1 D2 HLL
  obtain ⟨l8, e8, j8⟩ := r
  simp only at D1 D2 HLL
  clear HA HC hx hex hr
  go_enter Try.func3, Try.ntmps3
  go_wp2_with (first
    | (go_at_call 9; refine H1.out.mono ?_; clear H1; rintro e W1 ⟨⟨g1, k1, rfl, hL⟩, hB⟩; have HL1 := keepH hL; have B1 := keepH hB; clear hL hB)
    | (go_at_call 10; refine (H2.out _ B1.out).mono ?_; clear H2; rintro e W2 ⟨g2, rfl, hg2, hg2', hh, hB⟩; have HH2 := keepH hh; have HG2 := keepH hg2'; have L2 := keepH (HL1.out.below hB); have B2 := keepH (below_trans B1.out hB); clear hB hh hg2 hg2' HL1)
    | (go_at_call 11; refine (E1.out _ _ _ L2.out.pairs).mono ?_; clear E1; rintro e W3 ⟨⟨p3, c3, rfl, hat⟩, hB⟩; have X3 := keepH hat; have C3 := keepH (below_chgE hB); have B3 := keepH (below_trans B2.out hB); have G3 := keepH hB; clear hat hB)
    | (go_at_call 12; refine (E2.out _ B3.out).mono ?_; clear E2; rintro e W4 ⟨⟨p4, c4, rfl, hat⟩, hB⟩; have X4 := keepH (And.intro (X3.out.chg (below_chgE hB) (fun _ _ _ x => x)) hat); have B4 := keepH (below_trans B3.out hB); have G4 := keepH (below_trans G3.out hB); clear hat hB X3)
    | (go_at_call 13; refine (D1.out _ _ _ ((HH2.out.chg (below_chgE G4.out) (fun x => x)).bytes (Nat.lt_of_lt_of_le HG2.out G4.out.size) HS8.out) (by omega)).mono ?_; clear D1; rintro e W5 ⟨⟨p5, c5, rfl, hat, _⟩, hB⟩; have Y5 := keepH hat; have X5 := keepH (And.intro (X4.out.1.chg (below_chgE hB) (fun _ _ _ x => x)) (X4.out.2.chg (below_chgE hB) (fun _ _ _ x => x))); have B5 := keepH (below_trans B4.out hB); have G5 := keepH (below_trans G4.out hB); clear hat hB X4)
    | (go_at_call 14; refine (D2.out _ B5.out).mono ?_; clear D2; rintro e W6 ⟨p6, c6, l6, e6, j6, hr6, rfl, hat, hB⟩; obtain ⟨rfl, rfl, rfl⟩ : l8 = l6 ∧ e8 = e6 ∧ j8 = j6 := (by injection hr6 with z1 z2; injection z2 with z2 z3; exact ⟨z1, z2, z3⟩); have Y6 := keepH (And.intro (Y5.out.chgF (below_chgE hB) (fun _ _ _ x => x)) hat); have X6 := keepH (And.intro (X5.out.1.chg (below_chgE hB) (fun _ _ _ x => x)) (X5.out.2.chg (below_chgE hB) (fun _ _ _ x => x))); have B6 := keepH (below_trans B5.out hB); have G6 := keepH (below_trans G5.out hB); clear hat hB X5 Y5 hr6)
    | (go_at_call 15; refine (live_27 _).mono ?_; rintro e W7 ⟨rfl, hB⟩; have L7 := keepH hB; clear hB)
    | (go_at_call 16; refine (mem_same (X6.out.1.chg (below_chgE L7.out) (fun _ _ _ x => x)) (X6.out.2.chg (below_chgE L7.out) (fun _ _ _ x => x)) _ _ hel).mono ?_; rintro e W8 ⟨rfl, hB⟩; have L8 := keepH (below_trans L7.out hB); clear hB)
    | (go_at_call 17; refine (r_pairs _ _ _ _ l8 l8 _ (Y6.out.1.chgF (below_chgE L8.out) (fun _ _ _ x => x)) (Y6.out.2.chgF (below_chgE L8.out) (fun _ _ _ x => x)) (by have := HLL.out; omega) (by have := HLL.out; omega)).mono ?_; rintro e W9 ⟨rfl, hC⟩; rw [decide_eq_true (rfl : l8 = l8)]; have L9 := keepH (below_trans L8.out (below_of0 hC)); clear hC)
    | (go_at_call 18; refine (kept_any (L2.out.below (below_trans G6.out L9.out)) (HAA.out _ (below_trans B6.out L9.out)) _ (by omega)).mono ?_; clear L2; rintro e WA ⟨rfl, hB⟩; have LA := keepH (below_trans L9.out hB); clear hB)
    | (go_at_call 19; refine (keptb _ _ _ bs _ (HH2.out.chg (below_chgE (below_trans G6.out LA.out)) (fun x => x)) (Nat.lt_of_lt_of_le HG2.out (below_trans G6.out LA.out).size) (HCC.out _ (below_trans B6.out LA.out)) (by omega)).mono ?_; rintro e WB ⟨rfl, hC⟩; have LB := keepH (below_trans LA.out (below_of0 hC)); clear hC))
  go_ret
  exact ⟨rfl, below_trans B6.out LB.out⟩
end Go.Proofs.Ytbmfjcdafjknaaa
