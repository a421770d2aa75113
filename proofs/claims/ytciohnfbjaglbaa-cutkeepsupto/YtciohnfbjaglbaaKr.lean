/- Stamps that fall; a row of versions is laid; what a stamp asks for. -/
import Derived.Test.YtciohnfbjaglbaaKv
import Derived.Test.YtciohnfbjaglbaaKp
namespace Go.Proofs.Ytciohnfbjaglbaa
open Go.RowKit Go.Shelf
set_option linter.unusedVariables false

theorem stA_get {st : List Nat} {j x : Nat} (h : st[j]? = some x) : stA st j = x := by simp [stA, h]

set_option maxRecDepth 100000 in
set_option maxHeartbeats 2000000 in
theorem f_falling (p : Option Addr) (c : Nat) (st : List Nat) (W : World) (h : U64At W p st) (hl : st.length < 4611686018427387904) :
    Calls Try.prog 21 #[.slice p st.length c] W fun e W' => ∃ v : Value, e = .returned v ∧ (v = .bool false ∨ v = .bool true ∧ ∀ j, 0 < j → j < st.length → stA st j ≠ 0) ∧ Chg (fun _ => False) W W' := by
  have H := keepH h
  clear h
  go_enter Try.func21, Try.ntmps21
  go_wp2_with fail
  go_loopw [3] (fun s wr => ∃ k : Nat, 1 ≤ k ∧ s = .int .i64 (k : Int) ∧ Hid ((∀ j, 0 < j → j < k → j < st.length → stA st j ≠ 0) ∧ Chg (fun _ => False) W wr)) (fun s _ => st.length + 1 - (intOf s).toNat)
  case atStart => exact ⟨1, by omega, rfl, keepH ⟨fun j h1 h2 => by omega, Chg.refl _ _⟩⟩
  case round =>
    obtain ⟨k, hk1, rfl, HK⟩ := hrel
    by_cases hlt : k < st.length
    · have t1 : (k : Int) < (st.length : Int) := by omega
      obtain ⟨kp, rfl⟩ : ∃ kp, k = kp + 1 := ⟨k - 1, by omega⟩
      obtain ⟨k, hk⟩ : ∃ k, k = kp + 1 := ⟨_, rfl⟩
      have HKE := keepH hk
      rw [← hk] at HK hlt t1 ⊢
      have hsub : (k : Int) - 1 = (kp : Int) := by omega
      have hkp : (kp : Int) < (st.length : Int) := by omega
      obtain ⟨x, hx⟩ : ∃ x, st[k]? = some x := ⟨st[k], List.getElem?_eq_getElem hlt⟩
      obtain ⟨y, hy⟩ : ∃ y, st[kp]? = some y := ⟨st[kp]'(by omega), List.getElem?_eq_getElem _⟩
      obtain ⟨bk, off, rfl, hb, hc⟩ := (H.out.chg HK.out.2 (fun _ _ _ _ x => x)).resolve_left (fun e => by rw [e] at hlt; simp at hlt)
      have cx := (hc k x hx).2
      have cy := (hc kp y hy).2
      have HX := keepH hx
      have HCh := keepH HK.out.2
      clear hc hx hy hk hb hk1
      have done : ∀ (q : Nat), x ≠ 0 → Hid ((∀ j, 0 < j → j < k + 1 → j < st.length → stA st j ≠ 0) ∧ Chg (fun _ => False) W (wr.drewN q)) := fun q hx0 => keepH ⟨fun j j1 j2 j3 => by
        by_cases e : j = k
        · subst e; rw [stA_get HX.out]; exact hx0
        · exact HK.out.1 j j1 (by omega) j3, HCh.out.falls (Goes.drewN wr (fun _ => False) q).chg⟩
      have HD := keepH done
      clear done
      by_cases x0 : x = 0
      · subst x0
        go_upto_region 4 with fail
        go_quiet (fail)
        go_wp2_with fail
        go_ret
        exact ⟨.bool false, by simp, .inl rfl, HCh.out.falls (Goes.drewN wr (fun _ => False) _).chg⟩
      · have e0 : ((x : Int) == 0) = false := beq_eq_false_iff_ne.2 (by omega)
        by_cases y0 : y = 0
        · subst y0
          go_upto_region 4 with fail
          go_quiet (fail)
          have HD2 := HD.out nq x0
          go_wp2_with fail
          go_roundw
          case rel => exact ⟨k + 1, by omega, by go_num, HD2⟩
          case measure => simp [intOf]; omega
        · have e1 : ((y : Int) != 0) = true := bne_iff_ne.2 (by omega)
          by_cases g : y < x
          · have g1 : (y : Int) < (x : Int) := by omega
            have g2 : decide ((y : Int) < (x : Int)) = true := decide_eq_true g1
            have g3 : decide (y < x) = true := decide_eq_true g
            go_upto_region 4 with fail
            go_quiet (fail)
            go_wp2_with fail
            go_ret
            exact ⟨.bool false, by simp, .inl rfl, HCh.out.falls (Goes.drewN wr (fun _ => False) _).chg⟩
          · have g1 : ¬ (y : Int) < (x : Int) := by omega
            have g2 : decide ((y : Int) < (x : Int)) = false := decide_eq_false g1
            have g3 : decide (y < x) = false := decide_eq_false g
            go_upto_region 4 with fail
            go_quiet (fail)
            have HD2 := HD.out nq x0
            go_wp2_with fail
            go_roundw
            case rel => exact ⟨k + 1, by omega, by go_num, HD2⟩
            case measure => simp [intOf]; omega
    · have t1 : ¬ (k : Int) < (st.length : Int) := by omega
      go_wp2_with fail
      go_ret
      exact ⟨.bool true, by simp, .inr ⟨rfl, fun j j1 j2 => HK.out.1 j j1 (by omega) j2⟩, HK.out.2⟩
end Go.Proofs.Ytciohnfbjaglbaa
