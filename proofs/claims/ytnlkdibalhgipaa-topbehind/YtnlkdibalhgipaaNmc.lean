/- What is there, as a list. -/
import Derived.Test.YtnlkdibalhgipaaNe
namespace Go.Proofs.Ytnlkdibalhgipaa
open Go.RowKit Go.Maps
set_option linter.unusedVariables false

set_option maxRecDepth 100000 in
theorem m_content {W : World} {m nw hd mu : Nat} {f h : Nat → Option Nat} {g : Nat → Nat → Option Nat} {n : Nat} (H : MoAt W m nw hd mu f h g n) (hn : n ≤ 8796093022000) :
    Calls Try.prog 6 #[.pointer (some ⟨m, 0, none⟩)] W fun e W' => (∃ p c l, e = .returned (.slice p l.length c) ∧ Lists f 0 18446744073709551615 l ∧ PairsAt W' p l ∧ (∀ bk off, p = some ⟨bk, off, none⟩ → W.heap.size ≤ bk) ∧ l.length ≤ n) ∧ Chg (fun _ => False) W W' := by
  have HB := keepH (c_all H.now hn)
  have c1 : W.cell? ⟨m, 1, none⟩ = some (.map (some nw)) := cell_of H.md 1
  clear H
  go_enter Try.func6, Try.ntmps6
  go_wp2_with fail
  refine HB.out.mono ?_
  rintro e w1 ⟨⟨v, l, rfl, h1, h2, h3⟩, h4⟩
  obtain ⟨p, c, rfl, hP, hB⟩ := h2.slice
  have HZ : Hid (Lists f 0 18446744073709551615 l ∧ PairsAt w1 p l ∧ (∀ bk off, p = some ⟨bk, off, none⟩ → W.heap.size ≤ bk) ∧ l.length ≤ n) := ⟨h1, hP, hB, h3⟩
  have HC := keepH h4
  clear h1 h2 h3 h4 hP hB
  go_wp2_with fail
  go_ret
  exact ⟨⟨p, c, l, rfl, HZ.out⟩, HC.out⟩
set_option maxRecDepth 100000 in
theorem m_heldN {W : World} {m nw hd mu : Nat} {f h : Nat → Option Nat} {g : Nat → Nat → Option Nat} {n : Nat} (H : MoAt W m nw hd mu f h g n) {k : Nat} (hk : k < 18446744073709551616) (hh : h k = none) :
    Calls Try.prog 8 #[.pointer (some ⟨m, 0, none⟩), .int .u64 (k : Int)] W fun e W' => e = .returned (.tuple #[.slice none 0 0, .bool false]) ∧ W' = W := by
  have HH := keepH (holds_g H hk)
  rw [hh] at HH
  clear H
  go_enter Try.func8, Try.ntmps8
  go_wp2_with fail
  refine HH.out.mono ?_
  rintro e w1 ⟨rfl, rfl⟩
  go_wp2_with fail
  go_ret2
  exact ⟨by simp, rfl⟩
set_option maxRecDepth 100000 in
theorem m_heldS {W : World} {m nw hd mu : Nat} {f h : Nat → Option Nat} {g : Nat → Nat → Option Nat} {n : Nat} (H : MoAt W m nw hd mu f h g n) (hn : n ≤ 8796093022000) {k b : Nat} (hk : k < 18446744073709551616) (hh : h k = some b) :
    Calls Try.prog 8 #[.pointer (some ⟨m, 0, none⟩), .int .u64 (k : Int)] W fun e W' => (∃ p c l, e = .returned (.tuple #[.slice p l.length c, .bool true]) ∧ Lists (g b) 0 18446744073709551615 l ∧ PairsAt W' p l ∧ l.length ≤ n) ∧ Chg (fun _ => False) W W' := by
  have HH := keepH (holds_g H hk)
  have HB := keepH (c_all (H.pic k b hh) hn)
  have hl2 := HeldAt.look1 H.held hk
  rw [hh] at HH hl2
  have c2 : W.cell? ⟨m, 2, none⟩ = some (.map (some hd)) := cell_of H.md 2
  clear H
  go_enter Try.func8, Try.ntmps8
  go_wp2_with fail
  refine HH.out.mono ?_
  rintro e w1 ⟨rfl, rfl⟩
  go_wp2_with fail
  refine HB.out.mono ?_
  rintro e w2 ⟨⟨v, l, rfl, h1, h2, h3⟩, h4⟩
  obtain ⟨p, c, rfl, hP, hB⟩ := h2.slice
  have HZ : Hid (Lists (g b) 0 18446744073709551615 l ∧ PairsAt w2 p l ∧ l.length ≤ n) := ⟨h1, hP, h3⟩
  have HC := keepH h4
  clear h1 h2 h3 h4 hP hB
  go_wp2_with fail
  go_ret2
  exact ⟨⟨p, c, l, by simp, HZ.out⟩, HC.out⟩
end Go.Proofs.Ytnlkdibalhgipaa
