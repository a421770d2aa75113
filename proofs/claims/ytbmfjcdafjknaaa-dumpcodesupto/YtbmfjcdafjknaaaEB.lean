/- The document's find, and its change of a key. -/
import Derived.Test.YtbmfjcdafjknaaaEz
namespace Go.Proofs.Ytbmfjcdafjknaaa
open Go.RowKit
set_option linter.unusedVariables false

/-- A key's value among pairs. -/
def lkP (l : List (Nat × Nat)) (k : Nat) : Option Nat := (l.find? (fun x => x.1 == k)).map (fun x => x.2)
theorem find_at {α : Type} {p : α → Bool} {l : List α} {i : Nat} {x : α} (hi : l[i]? = some x) (hp : p x = true) (hn : ∀ (j : Nat) (y : α), j < i → l[j]? = some y → p y = false) : l.find? p = some x := by
  induction l generalizing i with
  | nil => simp at hi
  | cons y l ih =>
    cases i with
    | zero => simp at hi; subst hi; simp [hp]
    | succ i =>
      have := hn 0 y (by omega) rfl
      simp [this]
      exact ih (by simpa using hi) (fun j z hj hz => hn (j + 1) z (by omega) (by simpa using hz))
theorem find_no {α : Type} {p : α → Bool} {l : List α} (hn : ∀ (j : Nat) (y : α), l[j]? = some y → p y = false) : l.find? p = none := by
  rw [List.find?_eq_none]
  intro x hx
  obtain ⟨j, hj⟩ := List.mem_iff_getElem?.1 hx
  rw [hn j x hj]
  simp
set_option maxRecDepth 100000 in
set_option maxHeartbeats 4000000 in
theorem e_find {W : World} {p : Option Addr} {l : List (Nat × Nat)} (H : PairsAt W p l) (c key : Nat) (hl : l.length ≤ 1000000000000) :
    Calls Try.prog 55 #[.slice p l.length c, .int .u64 (key : Int)] W fun e W' => e = .returned (.tuple #[.int .u64 (((lkP l key).getD 0 : Nat) : Int), .bool (lkP l key).isSome]) ∧ W' = W := by
  have HH := keepH H
  clear H
  go_enter Try.func55, Try.ntmps55
  go_wp2_with fail
  go_loopw [6] (fun q wr => ∃ i : Nat, i ≤ l.length ∧ q = .int .i64 (i : Int) ∧ wr = W ∧ Hid (∀ (j : Nat) (x : Nat × Nat), j < i → l[j]? = some x → (x.1 == key) = false)) (fun q _ => l.length - (intOf q).toNat)
  case atStart => exact ⟨0, Nat.zero_le _, rfl, rfl, keepH (fun j x h => absurd h (by omega))⟩
  case round =>
    obtain ⟨i, hil, rfl, rfl, HX⟩ := hrel
    by_cases hlt : i < l.length
    · have q1 : (i : Int) < (l.length : Int) := by omega
      obtain ⟨⟨k, x⟩, hk⟩ : ∃ y, l[i]? = some y := ⟨l[i], List.getElem?_eq_getElem hlt⟩
      obtain ⟨bk, off, rfl, hbk, hcs⟩ := HH.out.resolve_left (by intro e; subst e; simp at hk)
      obtain ⟨_, _, c0, c1⟩ := hcs i k x hk
      have HK := keepH hk
      clear hk hcs
      by_cases t : k = key
      · have t1 : ((k : Int) == (key : Int)) = true := by simp [t]
        have HT := keepH t
        clear t
        have HR : Hid (lkP l key = some x) := keepH (by
          unfold lkP
          rw [find_at (p := fun y : Nat × Nat => y.1 == key) HK.out (by simp [HT.out]) HX.out]
          rfl)
        go_wp2_with fail
        go_ret2
        exact ⟨by rw [HR.out]; rfl, rfl⟩
      · have t1 : ((k : Int) == (key : Int)) = false := by simp; omega
        have HT := keepH t
        clear t
        go_wp2_with fail
        go_roundw
        case rel => exact ⟨i + 1, by omega, by first | rfl | go_num, (by first | rfl | trivial), keepH (fun j y hj hy => by
          by_cases z : j = i
          · subst z
            rw [HK.out] at hy
            injection hy with hy
            subst hy
            simp [HT.out]
          · exact HX.out j y (by omega) hy)⟩
        case measure => simp [intOf]; omega
    · have q1 : ¬ (i : Int) < (l.length : Int) := by omega
      have HR : Hid (lkP l key = none) := keepH (by
        unfold lkP
        rw [find_no (p := fun y : Nat × Nat => y.1 == key) (fun j y hy => HX.out j y (by have := (List.getElem?_eq_some_iff.1 hy).1; omega) hy)]
        rfl)
      go_wp2_with fail
      go_ret2
      exact ⟨by rw [HR.out]; rfl, rfl⟩
set_option maxRecDepth 100000 in
set_option maxHeartbeats 4000000 in
/-- Whether a key has a change (the change itself is not asked for). -/
theorem e_change {W : World} {p : Option Addr} {l : List Ch} (H : ChAt W p l) (c key : Nat) (hl : l.length ≤ 1000000000000) :
    Calls Try.prog 56 #[.slice p l.length c, .int .u64 (key : Int)] W fun e W' => (∃ z : Ch, e = .returned (.tuple #[z.val, .bool (l.any (fun x => x.k == key))])) ∧ Below W.heap.size W W' := by
  have HH := keepH H
  clear H
  go_enter Try.func56, Try.ntmps56
  go_wp2_with fail
  go_loopw [6] (fun q wr => ∃ i : Nat, i ≤ l.length ∧ q = .int .i64 (i : Int) ∧ wr = W.alloc (.cells #[.int .u64 0, .bool false, .bool false, .int .u64 0, .int .u64 0] 89) ∧ Hid (∀ (j : Nat) (x : Ch), j < i → l[j]? = some x → (x.k == key) = false)) (fun q _ => l.length - (intOf q).toNat)
  case atStart => exact ⟨0, Nat.zero_le _, rfl, rfl, keepH (fun j x h => absurd h (by omega))⟩
  case round =>
    obtain ⟨i, hil, rfl, rfl, HX⟩ := hrel
    by_cases hlt : i < l.length
    · have q1 : (i : Int) < (l.length : Int) := by omega
      obtain ⟨⟨k, hd, hs, od, nw⟩, hk⟩ : ∃ y : Ch, l[i]? = some y := ⟨l[i], List.getElem?_eq_getElem hlt⟩
      obtain ⟨bk, off, rfl, hbk, hcs⟩ := HH.out.resolve_left (by intro e; subst e; simp at hk)
      obtain ⟨c0, c1, c2, c3, c4⟩ := hcs i _ hk
      simp only at c0 c1 c2 c3 c4
      have HK := keepH hk
      clear hk hcs
      by_cases t : k = key
      · have t1 : ((k : Int) == (key : Int)) = true := by simp [t]
        have HT := keepH t
        clear t
        have HR : Hid (l.any (fun x => x.k == key) = true) := keepH (by
          rw [List.any_eq_true]
          exact ⟨_, List.mem_of_getElem? HK.out, by simp [HT.out]⟩)
        go_wp2_with fail
        refine bodyPost_ret (v := .tuple #[Ch.val ⟨k, hd, hs, od, nw⟩, .bool true]) (by simp [results, Try.results56, go_sem, Ch.val]) rfl ⟨⟨⟨k, hd, hs, od, nw⟩, by rw [HR.out]⟩, ?_⟩
        exact (Below.refl _ W).alloc (Nat.le_refl _) _
      · have t1 : ((k : Int) == (key : Int)) = false := by simp; omega
        have HT := keepH t
        clear t
        go_wp2_with fail
        go_roundw
        case rel => exact ⟨i + 1, by omega, by first | rfl | go_num, (by first | rfl | trivial), keepH (fun j y hj hy => by
          by_cases z : j = i
          · subst z
            rw [HK.out] at hy
            injection hy with hy
            subst hy
            simp [HT.out]
          · exact HX.out j y (by omega) hy)⟩
        case measure => simp [intOf]; omega
    · have q1 : ¬ (i : Int) < (l.length : Int) := by omega
      have HR : Hid (l.any (fun x => x.k == key) = false) := keepH (by
        rw [List.any_eq_false]
        intro x hx
        obtain ⟨j, hj⟩ := List.mem_iff_getElem?.1 hx
        have := HX.out j x (by have := (List.getElem?_eq_some_iff.1 hj).1; omega) hj
        simp [this])
      go_wp2_with fail
      refine bodyPost_ret (v := .tuple #[Ch.val ⟨0, false, false, 0, 0⟩, .bool false]) (by simp [results, Try.results56, go_sem, Ch.val]) rfl ⟨⟨⟨0, false, false, 0, 0⟩, by rw [HR.out]⟩, ?_⟩
      exact (Below.refl _ W).alloc (Nat.le_refl _) _
end Go.Proofs.Ytbmfjcdafjknaaa
