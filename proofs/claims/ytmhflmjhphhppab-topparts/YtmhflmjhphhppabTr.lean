/- Two leaves part: the pure part, and a Fork of like keys alone. -/
import Derived.Test.YtmhflmjhphhppabTq
namespace Go.Proofs.Ytmhflmjhphhppab
open Go.RowKit Go.Shelf
set_option linter.unusedVariables false

theorem cellN_set64 (l : List Nat) (i v j : Nat) (hi : i < l.length) : cellN (l.set i v) j = if j = i then v else cellN l j := by
  simp only [cellN, List.getD_eq_getElem?_getD, List.getElem?_set]
  by_cases e : i = j
  · subst e
    simp [hi]
  · rw [if_neg e, if_neg (fun x => e x.symm)]
theorem path_a {B : Nat} {cs : List Nat} {aw bw ha hb L : Nat} (M : FM B cs aw bw ha hb L L) (BR : ∀ i, i ≤ L → ∀ d, d < 64 → cellN cs (B + 6 + 67 * i + d) = cellN (brL B ha hb L i) d) (hne : dgN ha L ≠ dgN hb L) (hB : 1 ≤ B ∧ B ≤ 1000) (hL : L < 11) : Path cs B ha L aw := by
  intro J hJ
  have d1 := dgN_lt ha (L - J)
  have d2 := dgN_lt hb L
  have d3 := dgN_lt ha L
  have e := BR J hJ (dgN ha (L - J)) d1
  by_cases c : J = 0
  · subst c
    refine ⟨B, ⟨?_, by omega, by omega, M.a0.1, M.a0.2.1, M.a0.2.2⟩⟩
    rw [e, Nat.sub_zero]
    unfold brL
    rw [if_pos rfl, cellN_set64 _ _ _ _ (by simp; omega), if_neg hne, cellN_set64 _ _ _ _ (by simp; omega), if_pos rfl]
  · have v := M.ver J (by omega) hJ
    have w0 : wdN B aw J = 2 * (B + 6 + 67 * (J - 1)) := if_neg c
    refine ⟨B + 3 + 67 * J, ⟨?_, by omega, by omega, ?_, v.2.1, v.2.2⟩⟩
    · rw [e]
      unfold brL
      rw [if_neg c, cellN_set64 _ _ _ _ (by simp; omega), if_pos rfl]
    · rw [v.1, w0, if_neg c]
theorem path_b {B : Nat} {cs : List Nat} {aw bw ha hb L : Nat} (M : FM B cs aw bw ha hb L L) (BR : ∀ i, i ≤ L → ∀ d, d < 64 → cellN cs (B + 6 + 67 * i + d) = cellN (brL B ha hb L i) d) (heq : ∀ i, i < L → dgN ha i = dgN hb i) (hB : 1 ≤ B ∧ B ≤ 1000) (hL : L < 11) : Path cs B hb L bw := by
  intro J hJ
  have d1 := dgN_lt ha (L - J)
  have d2 := dgN_lt hb L
  have d3 := dgN_lt hb (L - J)
  have e := BR J hJ (dgN hb (L - J)) d3
  by_cases c : J = 0
  · subst c
    refine ⟨B + 3, ⟨?_, by omega, by omega, M.b0.1, M.b0.2.1, M.b0.2.2⟩⟩
    rw [e, Nat.sub_zero]
    unfold brL
    rw [if_pos rfl, cellN_set64 _ _ _ _ (by simp; omega), if_pos rfl]
  · have v := M.ver J (by omega) hJ
    have w0 : wdN B aw J = 2 * (B + 6 + 67 * (J - 1)) := if_neg c
    refine ⟨B + 3 + 67 * J, ⟨?_, by omega, by omega, ?_, v.2.1, v.2.2⟩⟩
    · rw [e]
      unfold brL
      rw [if_neg c, cellN_set64 _ _ _ _ (by simp; omega), if_pos (heq (L - J) (by omega)).symm]
    · rw [v.1, w0, if_neg c]
theorem part_same (h : Nat) : partN (h : Int) (h : Int) 0 = none := by
  cases e : partN (h : Int) (h : Int) 0 with
  | none => rfl
  | some j => exact absurd rfl (partF_some _ _ _ _ _ e).2.2.1
theorem like_digits (x y : Nat) (hx : x < 18446744073709551616) (hy : y < 18446744073709551616) (q : ∀ i : Nat, i < 11 → dig (x : Int) (i : Int) = dig (y : Int) (i : Int)) : x = y := by
  have h1 := hv_dig (x : Int) (by omega) (by omega)
  have h2 := hv_dig (y : Int) (by omega) (by omega)
  have hr : ∀ k, k ≤ 10 → rv (fun j => dig (x : Int) (j : Int)) k = rv (fun j => dig (y : Int) (j : Int)) k := by
    intro k
    induction k with
    | zero => intro _; simp [rv]
    | succ k ih =>
      intro hk
      simp only [rv]
      rw [ih (by omega), q k (by omega)]
  have e3 : hv (fun j => dig (x : Int) (j : Int)) 11 = hv (fun j => dig (y : Int) (j : Int)) 11 := by
    have q10 := q 10 (by omega)
    unfold hv
    rw [if_pos rfl, if_pos rfl, hr 10 (by omega)]
    show _ * 16 + dig (x : Int) ((10 : Nat) : Int) = _ * 16 + dig (y : Int) ((10 : Nat) : Int)
    rw [q10]
  rw [h1, h2] at e3
  omega
theorem part_some (a b : Nat) (ha : a < 18446744073709551616) (hb : b < 18446744073709551616) (hne : a ≠ b) : ∃ L, partN (mixN a : Int) (mixN b : Int) 0 = some L := by
  cases e : partN (mixN a : Int) (mixN b : Int) 0 with
  | some j => exact ⟨j, rfl⟩
  | none =>
    exfalso
    have q := partF_none _ _ _ _ e
    have e4 : mixN a = mixN b := like_digits _ _ mixN_lt mixN_lt (fun i hi => q i (by omega) (by omega))
    have e5 := congrArg backN e4
    rw [back_mix ha, back_mix hb] at e5
    exact hne e5
theorem known_alone {p aw am bw bm level : Nat} {cells : List Nat} {wd : Nat} {w : World} (V : Value) (hp : IsFork w p false 0 aw am bw bm 0 level cells 0 wd) (h0 : am < 18446744073709551616) (h1 : bm < 18446744073709551616) (hn : partN am bm 0 = none) :
    Calls Try.prog 49 #[V, .iface 54 (.pointer (some ⟨p, 0, none⟩)), .int .i64 40] w fun e w' => e = .returned (.bool true) ∧ IsFork w' p true 5 aw am bw bm 0 level cells 0 wd ∧ Chg (fun k => k = p) w w' := by
  refine (alone_any (.iface 54 (.pointer (some ⟨p, 0, none⟩))) V (fun i w' => if i = 0 then w' = w else IsFork w' p true 5 aw am bw bm 0 level cells 0 wd ∧ Chg (fun k => k = p) w w') 0 40 (by omega) (by omega) w rfl (fun i w1 hi hI => ?_)).mono ?_
  · obtain rfl : i = 0 := by omega
    have hI' : w1 = w := hI
    subst hI'
    have P0 : IsFork (w1.alloc (.cells #[.bool false] 4)) p false 0 aw am bw bm 0 level cells 0 wd := hp.chg (F := fun _ => False) ((Chg.refl _ _).alloc _) (fun x => x)
    have hpl := lt_of hp.2
    refine (so_fork p _ true (fun w2 => IsFork w2 p true 5 aw am bw bm 0 level cells 0 wd ∧ Chg (fun k => k = p) w1 w2) w1 ((fork_known V P0 h0 h1 (by omega) hn).mono ?_)).mono ?_
    · rintro e w2 ⟨rfl, P2, C2⟩
      exact ⟨rfl, ⟨P2, ((Chg.refl (fun k => k = p) w1).alloc _).trans C2 (fun _ _ x => x) (fun _ _ x => x)⟩, C2.block _ (by simp) (by omega)⟩
    · rintro e w3 ⟨rfl, w2, ⟨P2, C2⟩, rfl⟩
      refine ⟨rfl, ?_⟩
      rw [if_neg (by omega)]
      exact ⟨P2.chg (setC (p := w1.heap.size) _) (by omega), C2.setCell (p := ⟨w1.heap.size, 0, none⟩) (fun e => (Nat.lt_irrefl _ e).elim) _⟩
  · rintro e w' ⟨rfl, hI⟩
    rw [if_neg (by omega)] at hI
    exact ⟨rfl, hI⟩
end Go.Proofs.Ytmhflmjhphhppab
