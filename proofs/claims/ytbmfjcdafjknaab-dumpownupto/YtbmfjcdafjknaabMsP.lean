/- Lists of pairs, held against each other. -/
import Derived.Test.YtbmfjcdafjknaabMsQ
namespace Go.Proofs.Ytbmfjcdafjknaab
open Go.RowKit
set_option linter.unusedVariables false

theorem PairsAt.get {W W' : World} {p : Option Addr} {l : List (Nat × Nat)} (h : PairsAt W p l) (c : Chg (fun _ => False) W W') (i k x : Nat) (hi : l[i]? = some (k, x)) : ∃ bk off, p = some ⟨bk, off, none⟩ ∧ k < 18446744073709551616 ∧ x < 18446744073709551616 ∧ W'.cell? ⟨bk, off + i * 2, none⟩ = some (.int .u64 (k : Int)) ∧ W'.cell? ⟨bk, off + i * 2 + 1, none⟩ = some (.int .u64 (x : Int)) := by
  rcases h with rfl | ⟨bk, off, rfl, _, h⟩
  · simp at hi
  · obtain ⟨b1, b2, h1, h2⟩ := h i k x hi
    exact ⟨bk, off, rfl, b1, b2, cell_chg c h1 (fun x => x), cell_chg c h2 (fun x => x)⟩
set_option maxRecDepth 100000 in
set_option maxHeartbeats 4000000 in
theorem r_pairs (pa pb : Option Addr) (ca cb : Nat) (la lb : List (Nat × Nat)) (W : World) (hA : PairsAt W pa la) (hB : PairsAt W pb lb) (hla : la.length ≤ 17592186044416) (hlb : lb.length ≤ 17592186044416) :
    Calls Try.prog 8 #[.slice pa la.length ca, .slice pb lb.length cb] W fun e W' => e = .returned (.bool (decide (la = lb))) ∧ Chg (fun _ => False) W W' := by
  have HA := keepH hA
  have HB := keepH hB
  clear hA hB
  by_cases hl : la.length = lb.length
  · have d1 : decide (la.length = lb.length) = true := decide_eq_true hl
    have b1 : ((la.length : Int) != (lb.length : Int)) = false := by rw [hl]; simp
    go_enter Try.func8, Try.ntmps8
    go_wp2_with fail
    go_loopw [5] (fun s wr => ∃ k : Nat, k ≤ la.length ∧ s = .int .i64 (k : Int) ∧ Hid ((∀ j, j < k → la[j]? = lb[j]?) ∧ Chg (fun _ => False) W wr)) (fun s _ => la.length - (intOf s).toNat)
    case atStart => exact ⟨0, by omega, rfl, keepH ⟨fun j h => absurd h (by omega), Chg.refl _ _⟩⟩
    case round =>
      obtain ⟨k, hk, rfl, HK⟩ := hrel
      by_cases hlt : k < la.length
      · have t1 : (k : Int) < (la.length : Int) := by omega
        have t2 : (k : Int) < (lb.length : Int) := by omega
        obtain ⟨⟨a, b⟩, hx⟩ : ∃ x, la[k]? = some x := ⟨la[k], List.getElem?_eq_getElem hlt⟩
        obtain ⟨⟨c, d⟩, hy⟩ : ∃ x, lb[k]? = some x := ⟨lb[k], List.getElem?_eq_getElem (by omega)⟩
        obtain ⟨bk, off, rfl, ba, bb, c0, c1⟩ := HA.out.get HK.out.2 k a b hx
        obtain ⟨bk', off', rfl, bc, bd, d0, d1'⟩ := HB.out.get HK.out.2 k c d hy
        have hpn := pair_neq a b c d ba bb bc bd
        have HX : Hid (la[k]? = some (a, b) ∧ lb[k]? = some (c, d)) := ⟨hx, hy⟩
        clear hx hy
        by_cases e : (a, b) = (c, d)
        · have dd : decide ((a, b) = (c, d)) = true := decide_eq_true e
          rw [dd] at hpn
          have HE := keepH e
          clear dd e
          go_wp2_with fail
          go_quiet (fail)
          go_wp2_with fail
          go_roundw
          case rel => exact ⟨k + 1, by omega, by first | rfl | go_num, keepH ⟨fun j hj => by
            by_cases z : j = k
            · subst z; rw [HX.out.1, HX.out.2, HE.out]
            · exact HK.out.1 j (by omega), HK.out.2.trans (H := fun _ => False) ⟨rfl, rfl, rfl, Nat.le_refl _, fun _ _ _ => rfl⟩ (fun _ _ x => x) (fun _ _ x => x)⟩⟩
          case measure => simp [intOf]; omega
        · have dd : decide ((a, b) = (c, d)) = false := decide_eq_false e
          rw [dd] at hpn
          have HE := keepH e
          clear dd e
          go_wp2_with fail
          go_quiet (fail)
          go_wp2_with fail
          go_ret
          have hne : ¬ la = lb := fun z => HE.out (by have q1 := HX.out.1; rw [z, HX.out.2] at q1; simpa using q1.symm)
          exact ⟨by simp [hne], HK.out.2.trans (H := fun _ => False) ⟨rfl, rfl, rfl, Nat.le_refl _, fun _ _ _ => rfl⟩ (fun _ _ x => x) (fun _ _ x => x)⟩
      · obtain rfl : k = la.length := by omega
        have t1 : ¬ (la.length : Int) < (la.length : Int) := by omega
        go_wp2_with fail
        go_ret
        have he : la = lb := by
          apply List.ext_getElem?
          intro j
          by_cases z : j < la.length
          · exact HK.out.1 j z
          · rw [List.getElem?_eq_none (by omega), List.getElem?_eq_none (by omega)]
        exact ⟨by simp [he], HK.out.2⟩
  · have d1 : decide (la.length = lb.length) = false := decide_eq_false hl
    have b1 : ((la.length : Int) != (lb.length : Int)) = true := bne_iff_ne.2 (by omega)
    have hne : ¬ la = lb := fun z => hl (by rw [z])
    have HNE := keepH hne
    clear hne
    go_enter Try.func8, Try.ntmps8
    go_wp2_with fail
    go_ret
    exact ⟨by simp [HNE.out], Chg.refl _ _⟩
end Go.Proofs.Ytbmfjcdafjknaab
