/- What is there, as a list. -/
import Derived.Test.YtnhfpnhmdfgckaaNe
namespace Go.Proofs.Ytnhfpnhmdfgckaa
open Go.RowKit Go.Maps
set_option linter.unusedVariables false

set_option maxRecDepth 100000 in
theorem m_content {W : World} {m nw hd mu : Nat} {f h : Nat → Option Nat} {g : Nat → Nat → Option Nat} {n : Nat} (H : MoAt W m nw hd mu f h g n) (hn : n ≤ 8796093022000) :
    Calls Try.prog 34 #[.pointer (some ⟨m, 0, none⟩)] W fun e W' => (∃ p c l, e = .returned (.slice p l.length c) ∧ Lists f 0 18446744073709551615 l ∧ PairsAt W' p l ∧ (∀ bk off, p = some ⟨bk, off, none⟩ → W.heap.size ≤ bk) ∧ l.length ≤ n) ∧ Chg (fun _ => False) W W' := by
  have HB := keepH (c_all H.now hn)
  have c1 : W.cell? ⟨m, 1, none⟩ = some (.map (some nw)) := cell_of H.md 1
  clear H
  go_enter Try.func34, Try.ntmps34
  go_wp2_with fail
  refine HB.out.mono ?_
  rintro e w1 ⟨⟨v, l, rfl, h1, h2, h3⟩, h4⟩
  obtain ⟨p, c, rfl, hP, hB⟩ := h2.slice
  have HZ : Hid (Lists f 0 18446744073709551615 l ∧ PairsAt w1 p l ∧ (∀ bk off, p = some ⟨bk, off, none⟩ → W.heap.size ≤ bk) ∧ l.length ≤ n) := ⟨h1, hP, hB, h3⟩
  have HC := keepH h4
  clear h1 h2 h3 h4 hP hB
  go_wp2_with fail
  go_ret
  exact ⟨⟨p, c, l, rfl, HZ.out⟩, HC.out⟩
end Go.Proofs.Ytnhfpnhmdfgckaa
