/- A row of versions is laid. -/
import Derived.Test.YtciohnfbjaglbaaKr
namespace Go.Proofs.Ytciohnfbjaglbaa
open Go.RowKit Go.Shelf
set_option linter.unusedVariables false

theorem alN_cell {most next : Nat} {cs vals : List Nat} (h : alOk most next vals.length) (i : Nat) : cellN (alN most next cs vals) i = if next ≤ i ∧ i < next + vals.length then cellN vals (i - next) else cellN cs i := by
  unfold alN
  rw [if_pos h, spliceN_cell _ _ _ (by rw [padN_length]; omega), padN_cell]
structure RowP (st : List Nat) (n k : Nat) (cs : List Nat) : Prop where
  val : ∀ j, k ≤ j → j < n → cellN cs (aN n j) = j + 1
  stp : ∀ j, k ≤ j → j < n → cellN cs (aN n j + 1) = stA st j
  lnk : ∀ j, k ≤ j → j < n → cellN cs (aN n j + 2) = aN n (j + 1)
theorem RowP.more {st : List Nat} {n k most : Nat} {cs : List Nat} (h : RowP st n (k + 1) cs) (hk : k < n) (hm : 3 * n + 2 < most) : RowP st n k (alN most (1 + 3 * (n - (k + 1))) cs [k + 1, stA st k, aN n (k + 1)]) := by
  have ok : alOk most (1 + 3 * (n - (k + 1))) [k + 1, stA st k, aN n (k + 1)].length := ⟨by simp, by simp; omega⟩
  have ak : aN n k = 1 + 3 * (n - (k + 1)) := by rw [aN_lt hk]; omega
  have far : ∀ j i, k + 1 ≤ j → j < n → i ≤ 2 → ¬ (1 + 3 * (n - (k + 1)) ≤ aN n j + i ∧ aN n j + i < 1 + 3 * (n - (k + 1)) + 3) := fun j i h1 h2 h3 => by rw [aN_lt h2]; omega
  refine ⟨fun j h1 h2 => ?_, fun j h1 h2 => ?_, fun j h1 h2 => ?_⟩
  · by_cases e : j = k
    · subst e
      rw [alN_cell ok, if_pos (by rw [ak]; simp), ak, Nat.sub_self]
      rfl
    · rw [alN_cell ok, if_neg (by have := far j 0 (by omega) h2 (by omega); simpa using this)]
      exact h.val j (by omega) h2
  · by_cases e : j = k
    · subst e
      rw [alN_cell ok, if_pos (by rw [ak]; simp), ak, show 1 + 3 * (n - (j + 1)) + 1 - (1 + 3 * (n - (j + 1))) = 1 by omega]
      rfl
    · rw [alN_cell ok, if_neg (by have := far j 1 (by omega) h2 (by omega); simpa using this)]
      exact h.stp j (by omega) h2
  · by_cases e : j = k
    · subst e
      rw [alN_cell ok, if_pos (by rw [ak]; simp), ak, show 1 + 3 * (n - (j + 1)) + 2 - (1 + 3 * (n - (j + 1))) = 2 by omega]
      rfl
    · rw [alN_cell ok, if_neg (by have := far j 2 (by omega) h2 (by omega); simpa using this)]
      exact h.lnk j (by omega) h2
theorem RowP.fin {st : List Nat} {n most : Nat} {cs : List Nat} (h : RowP st n 0 cs) (hm : 3 * n + 2 < most) : RowC st n (alN most (1 + 3 * n) cs [aN n 0]) ∧ ∀ j, j < n → cellN (alN most (1 + 3 * n) cs [aN n 0]) (aN n j + 2) = aN n (j + 1) := by
  have ok : alOk most (1 + 3 * n) [aN n 0].length := ⟨by simp, by simp; omega⟩
  have far : ∀ j i, j < n → i ≤ 2 → ¬ (1 + 3 * n ≤ aN n j + i ∧ aN n j + i < 1 + 3 * n + 1) := fun j i h2 h3 => by rw [aN_lt h2]; omega
  refine ⟨⟨fun j hj => ?_, fun j hj => ?_, ?_⟩, fun j hj => ?_⟩
  · rw [alN_cell ok, if_neg (by have := far j 0 hj (by omega); simpa using this)]
    exact h.val j (by omega) hj
  · rw [alN_cell ok, if_neg (by have := far j 1 hj (by omega); simpa using this)]
    exact h.stp j (by omega) hj
  · rw [alN_cell ok, if_pos (by simp), Nat.sub_self]
    rfl
  · rw [alN_cell ok, if_neg (by have := far j 2 hj (by omega); simpa using this)]
    exact h.lnk j (by omega) hj
theorem aN_small (n j : Nat) (hn : n ≤ 1000) : aN n j < 18446744073709551616 := by
  unfold aN
  split <;> omega

set_option maxRecDepth 100000 in
set_option maxHeartbeats 2000000 in
theorem f_row {W : World} {m b v most : Nat} {w : World} {E : Nat → Prop} (h : SB W m b v 0 most w 1 0 [] [] E) (p : Option Addr) (c : Nat) (st : List Nat) (hU : U64At W p st) (hn : st.length ≤ 1000) (hm : 3 * st.length + 2 < most) :
    Calls Try.prog 22 #[.pointer (some ⟨v, 0, none⟩), .slice p st.length c] w fun e w' => e = .returned (.int .u64 ((1 + 3 * st.length : Nat) : Int)) ∧ ∃ cs t, SB W m b v 0 most w' (2 + 3 * st.length) (st.length + 1) cs t E ∧ t.length = st.length + 1 ∧ RowC st st.length cs ∧ (∀ j, j < st.length → cellN cs (aN st.length j + 2) = aN st.length (j + 1)) ∧ ∀ k, E k → w'.heap[k]? = w.heap[k]? := by
  have HB := keepH h
  have HU := keepH hU
  obtain ⟨n, hN⟩ : ∃ n, n = st.length := ⟨_, rfl⟩
  have HN := keepH hN
  rw [← hN] at hn hm ⊢
  clear h hU hN
  go_enter Try.func22, Try.ntmps22
  go_wp2_with fail
  go_loopw [5, 6] (fun s5 s6 wr => ∃ (k : Nat) (cs : List Nat) (t : List Acc), k ≤ n ∧ s5 = .int .u64 (aN n k : Int) ∧ s6 = .int .i64 ((k : Int) - 1) ∧ Hid (SB W m b v 0 most wr (1 + 3 * (n - k)) (n - k) cs t E ∧ t.length = n - k ∧ RowP st n k cs ∧ ∀ k, E k → wr.heap[k]? = w.heap[k]?)) (fun _ s6 _ => (intOf s6 + 1).toNat)
  case atStart =>
    refine ⟨n, [], [], Nat.le_refl _, by rw [aN_end (Nat.le_refl _)]; rfl, rfl, keepH ⟨?_, by simp, ⟨fun j h1 h2 => by omega, fun j h1 h2 => by omega, fun j h1 h2 => by omega⟩, fun _ _ => rfl⟩⟩
    rw [Nat.sub_self]
    exact HB.out
  case round =>
    obtain ⟨k, cs, t, hk, rfl, rfl, HK⟩ := hrel
    by_cases hk0 : k = 0
    · subst hk0
      obtain ⟨a0, ha0⟩ : ∃ a0, a0 = aN n 0 := ⟨_, rfl⟩
      have HA0 := keepH ha0
      have ba0 : a0 < 18446744073709551616 := by rw [ha0]; exact aN_small n 0 hn
      rw [← ha0]
      obtain ⟨hS, hT, hR, hE⟩ := HK.out
      have HS := keepH hS
      have HT := keepH hT
      have HR := keepH hR
      have HE := keepH hE
      clear ha0 hS hT hR hE HK
      go_wp2_with fail
      refine (HS.out.aloc [a0] _ 1 rfl (by intro x hx; simp at hx; omega) (by simp) (by omega) (by rw [HT.out]; omega)).mono ?_
      rintro e w2 ⟨rfl, S2, K2⟩
      have e1 : alAt most (1 + 3 * (n - 0)) [a0].length = 1 + 3 * n := by unfold alAt; rw [if_pos ⟨by simp, by simp; omega⟩]; rfl
      have e2 : alNext most (1 + 3 * (n - 0)) [a0].length = 2 + 3 * n := by unfold alNext; rw [if_pos ⟨by simp, by simp; omega⟩]; simp; omega
      rw [e1]
      rw [e1, e2] at S2
      have HS2 := keepH S2
      have HK2 := keepH K2
      clear S2 K2 e1 e2
      go_wp2_with fail
      go_ret
      have f := HR.out.fin (most := most) hm
      rw [← HA0.out] at f
      exact ⟨by simp, _, _, HS2.out, by simp [HT.out], f.1, f.2, fun k e => (HK2.out k e).trans (HE.out k e)⟩
    · obtain ⟨i, rfl⟩ : ∃ i, k = i + 1 := ⟨k - 1, by omega⟩
      have hin : i < st.length := by have := HN.out; omega
      have e6 : ((i + 1 : Nat) : Int) - 1 = (i : Int) := by omega
      rw [e6]
      have t1 : (0 : Int) ≤ (i : Int) := by omega
      obtain ⟨x, hx⟩ : ∃ x, st[i]? = some x := ⟨st[i], List.getElem?_eq_getElem hin⟩
      obtain ⟨hS, hT, hR, hE⟩ := HK.out
      obtain ⟨bk, off, rfl, hb, hc⟩ := (HU.out.chg hS.chg (fun _ _ _ _ x => x)).resolve_left (fun e => by rw [e] at hin; simp at hin)
      have cx := (hc i x hx).2
      have bx := (hc i x hx).1
      have w1 : IntKind.u64.wrap (i : Int) = (i : Int) := u64_lt (by omega)
      obtain ⟨i1, hi1⟩ : ∃ i1, i1 = i + 1 := ⟨_, rfl⟩
      have w2 : IntKind.u64.wrap ((i : Int) + 1) = (i1 : Int) := by rw [IntKind.wrap_u64]; omega
      obtain ⟨a1, ha1⟩ : ∃ a1, a1 = aN n (i + 1) := ⟨_, rfl⟩
      have ba1 : a1 < 18446744073709551616 := by rw [ha1]; exact aN_small n _ hn
      rw [← ha1]
      have HA1 := keepH ha1
      have HI1 := keepH hi1
      have HX := keepH hx
      have HS := keepH hS
      have HT := keepH hT
      have HR := keepH hR
      have HE := keepH hE
      have bi1 : i1 < 18446744073709551616 := by omega
      have h1n : i1 ≤ n := by have := HN.out; omega
      have hsl : st.length < 4611686018427387904 := by have := HN.out; omega
      have t2 : (i : Int) < (st.length : Int) := by omega
      clear ha1 hi1 hx hS hT hR hE HK hc hb e6
      go_wp2_with fail
      refine (HS.out.aloc [i1, x, a1] _ 3 rfl (by intro z hz; simp at hz; omega) (by simp) (by omega) (by rw [HT.out]; omega)).mono ?_
      rintro e w2 ⟨rfl, S2, K2⟩
      have ok : alOk most (1 + 3 * (n - (i + 1))) [i1, x, a1].length := ⟨by simp, by simp; omega⟩
      have e1 : alAt most (1 + 3 * (n - (i + 1))) [i1, x, a1].length = aN n i := by unfold alAt; rw [if_pos ok, aN_lt (by have := HN.out; omega)]; omega
      have e2 : alNext most (1 + 3 * (n - (i + 1))) [i1, x, a1].length = 1 + 3 * (n - i) := by unfold alNext; rw [if_pos ok]; simp; have := HN.out; omega
      rw [e1]
      rw [e1, e2] at S2
      have HS2 := keepH S2
      have HK2 := keepH K2
      clear S2 K2 e1 e2 ok
      go_wp2_with fail
      go_roundw
      case rel =>
        refine ⟨i, alN most (1 + 3 * (n - (i + 1))) cs [i1, x, a1], t ++ [⟨0, 5, aN n i, 0, 0, .slice none 0 0, [i1, x, a1], 0, false⟩], by omega, rfl, by first | rfl | go_num, keepH ⟨?_, ?_, ?_, fun k e => (HK2.out k e).trans (HE.out k e)⟩⟩
        · have := HS2.out
          rw [show n - (i + 1) + 1 = n - i by omega] at this
          exact this
        · have := HT.out
          simp only [List.length_append, List.length_singleton]
          omega
        · have f := RowP.more (most := most) HR.out (by omega) hm
          rw [← HI1.out, stA_get HX.out, HI1.out, ← HA1.out, ← HI1.out] at f
          rw [← HI1.out]
          exact f
      case measure => simp [intOf]
end Go.Proofs.Ytciohnfbjaglbaa
