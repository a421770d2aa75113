/- SameSpans: are two rows of spans the same? -/
import Derived.Test.YtfohpbpekdcneaaDoorHRef
namespace Go.Proofs.YtfohpbpekdcneaaDoor
open Go.RowKit

theorem list_eq_of {la lb : List Sp} (hl : la.length = lb.length) (h : ∀ i, i < la.length → la[i]? = lb[i]?) : la = lb := by
  apply List.ext_getElem?
  intro i
  by_cases c : i < la.length
  · exact h i c
  · rw [List.getElem?_eq_none (by omega), List.getElem?_eq_none (by omega)]
set_option maxRecDepth 100000 in
set_option maxHeartbeats 2000000 in
theorem r_same (p q : Option Addr) (c d : Nat) (la lb : List Sp) (W : World) (ha : SReads W p la) (hb : SReads W q lb) (hla : la.length ≤ 4398046511104) :
    Calls Tryd.prog 10 #[.slice p la.length c, .slice q lb.length d] W fun e W' => ∃ v, e = .returned v ∧ (la = lb ∧ v = .bool true ∨ la ≠ lb ∧ v = .bool false) ∧ Chg (fun _ => False) W W' := by
  by_cases hl : la.length = lb.length
  · have HA := keepH ha
    have HB := keepH hb
    have HL := keepH hl
    obtain ⟨n, hn⟩ : ∃ n, n = la.length := ⟨_, rfl⟩
    rw [← hl, ← hn]
    have HN := keepH hn
    have hnb : n ≤ 4398046511104 := by omega
    clear ha hb hl hn hla
    go_enter Tryd.func10, Tryd.ntmps10
    go_wp2_with fail
    go_loopw [5] (fun s wr => ∃ k : Nat, k ≤ n ∧ s = .int .i64 (k : Int) ∧ Hid (Chg (fun _ => False) W wr ∧ ∀ i, i < k → la[i]? = lb[i]?)) (fun s _ => n - (intOf s).toNat)
    case atStart => exact ⟨0, by omega, rfl, keepH ⟨Chg.refl _ _, fun i hi => by omega⟩⟩
    case round =>
      obtain ⟨k, hk, rfl, HK⟩ := hrel
      by_cases hlt : k < n
      · have t1 : (k : Int) < (n : Int) := by omega
        obtain ⟨s, hs⟩ : ∃ s, la[k]? = some s := ⟨la[k]'(by have := HN.out; omega), List.getElem?_eq_getElem _⟩
        obtain ⟨t, ht⟩ : ∃ t, lb[k]? = some t := ⟨lb[k]'(by have := HN.out; have := HL.out; omega), List.getElem?_eq_getElem _⟩
        obtain ⟨bk, off, rfl, _, c0, c1, c2, c3⟩ := (HA.out.chg HK.out.1 (fun _ _ x => x)).get k s hs
        obtain ⟨bk', off', rfl, _, d0, d1, d2, d3⟩ := (HB.out.chg HK.out.1 (fun _ _ x => x)).get k t ht
        have HS := keepH hs
        have HT := keepH ht
        clear hs ht
        obtain ⟨s0, s1, s2, s3⟩ := s
        obtain ⟨z0, z1, z2, z3⟩ := t
        simp only at c0 c1 c2 c3 d0 d1 d2 d3
        by_cases e0 : s0 = z0
        · subst e0
          by_cases e1 : s1 = z1
          · subst e1
            by_cases e2 : s2 = z2
            · subst e2
              by_cases e3 : s3 = z3
              · subst e3
                go_wp2_with fail
                go_quiet (fail)
                go_wp2_with fail
                go_roundw
                case rel =>
                  refine ⟨k + 1, by omega, by first | rfl | go_num, keepH ⟨HK.out.1.trans (H := fun _ => False) ⟨rfl, rfl, rfl, Nat.le_refl _, fun _ _ _ => rfl⟩ (fun _ _ x => x) (fun _ _ x => x), fun i hi => ?_⟩⟩
                  by_cases e : i = k
                  · subst e; rw [HS.out, HT.out]
                  · exact HK.out.2 i (by omega)
                case measure => simp [intOf]; omega
              · skip
                go_wp2_with fail
                go_quiet (fail)
                go_wp2_with fail
                go_ret
                refine ⟨.bool false, by simp, .inr ⟨fun h => ?_, rfl⟩, HK.out.1.trans (H := fun _ => False) ⟨rfl, rfl, rfl, Nat.le_refl _, fun _ _ _ => rfl⟩ (fun _ _ x => x) (fun _ _ x => x)⟩
                have e1 := HS.out
                rw [h, HT.out] at e1
                simp at e1
                omega
            · skip
              go_wp2_with fail
              go_quiet (fail)
              go_wp2_with fail
              go_ret
              refine ⟨.bool false, by simp, .inr ⟨fun h => ?_, rfl⟩, HK.out.1.trans (H := fun _ => False) ⟨rfl, rfl, rfl, Nat.le_refl _, fun _ _ _ => rfl⟩ (fun _ _ x => x) (fun _ _ x => x)⟩
              have e1 := HS.out
              rw [h, HT.out] at e1
              simp at e1
              omega
          · skip
            go_wp2_with fail
            go_quiet (fail)
            go_wp2_with fail
            go_ret
            refine ⟨.bool false, by simp, .inr ⟨fun h => ?_, rfl⟩, HK.out.1.trans (H := fun _ => False) ⟨rfl, rfl, rfl, Nat.le_refl _, fun _ _ _ => rfl⟩ (fun _ _ x => x) (fun _ _ x => x)⟩
            have e1 := HS.out
            rw [h, HT.out] at e1
            simp at e1
            omega
        · skip
          go_wp2_with fail
          go_quiet (fail)
          go_wp2_with fail
          go_ret
          refine ⟨.bool false, by simp, .inr ⟨fun h => ?_, rfl⟩, HK.out.1.trans (H := fun _ => False) ⟨rfl, rfl, rfl, Nat.le_refl _, fun _ _ _ => rfl⟩ (fun _ _ x => x) (fun _ _ x => x)⟩
          have e1 := HS.out
          rw [h, HT.out] at e1
          simp at e1
          omega
      · obtain rfl : k = n := by omega
        have t1 : ¬ (k : Int) < (k : Int) := by omega
        go_wp2_with fail
        go_ret
        exact ⟨.bool true, by simp, .inl ⟨list_eq_of HL.out (fun i hi => HK.out.2 i (by have := HN.out; omega)), rfl⟩, HK.out.1⟩
  · have HL := keepH hl
    obtain ⟨n, hn⟩ : ∃ n, n = la.length := ⟨_, rfl⟩
    obtain ⟨m, hm⟩ : ∃ m, m = lb.length := ⟨_, rfl⟩
    rw [← hn, ← hm]
    have hne : ¬ (n : Int) = (m : Int) := by omega
    clear ha hb hl hn hm hla
    go_enter Tryd.func10, Tryd.ntmps10
    go_wp2_with fail
    go_ret
    exact ⟨.bool false, by simp, .inr ⟨fun h => absurd (congrArg List.length h) HL.out, rfl⟩, Chg.refl _ _⟩
end Go.Proofs.YtfohpbpekdcneaaDoor
