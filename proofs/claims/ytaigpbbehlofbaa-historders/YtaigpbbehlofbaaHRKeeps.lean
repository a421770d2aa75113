/- The document's Keeps: whatever spans and order: it tells whether the order keeps them. -/
import Derived.Test.YtaigpbbehlofbaaHKeeps
namespace Go.Proofs.Ytaigpbbehlofbaa
open Go.RowKit Go.Maps

def PlaceP (o : List Int) (n x : Int) : Prop := (∃ i : Nat, o[i]? = some n ∧ x = (i : Int) ∧ ∀ j : Nat, j < i → o[j]? ≠ some n) ∨ (x = -1 ∧ ∀ i : Nat, o[i]? ≠ some n)
set_option maxRecDepth 100000 in
set_option maxHeartbeats 2000000 in
theorem r_place (q : Option Addr) (d : Nat) (o : List Int) (n : Int) (W : World) (ho : IReads W q o) (hol : o.length ≤ 17592186044416) :
    Calls Try.prog 18 #[.slice q o.length d, .int .i64 n] W fun e W' => ∃ x, e = .returned (.int .i64 x) ∧ PlaceP o n x ∧ W' = W := by
  have HO := keepH ho
  clear ho
  go_enter Try.func18, Try.ntmps18
  go_wp2_with fail
  go_loopw [5] (fun s wr => ∃ k : Nat, k ≤ o.length ∧ s = .int .i64 (k : Int) ∧ Hid ((∀ j : Nat, j < k → o[j]? ≠ some n) ∧ wr = W)) (fun s _ => o.length - (intOf s).toNat)
  case atStart => exact ⟨0, by omega, rfl, keepH ⟨fun j hj => by omega, rfl⟩⟩
  case round =>
    obtain ⟨k, hk, rfl, HK⟩ := hrel
    have e1 : wr = W := HK.out.2
    rw [e1]
    clear e1
    by_cases hlt : k < o.length
    · have t1 : (k : Int) < (o.length : Int) := by omega
      obtain ⟨a, ha⟩ : ∃ a, o[k]? = some a := ⟨o[k], List.getElem?_eq_getElem hlt⟩
      obtain ⟨bo, oo, rfl, _, c0⟩ := HO.out.get k a ha
      have HA := keepH ha
      clear ha
      by_cases h1 : a = n
      · have HH := keepH h1
        go_wp2_with fail
        go_ret
        exact ⟨(k : Int), by simp, .inl ⟨k, by rw [HA.out, HH.out], rfl, HK.out.1⟩, rfl⟩
      · go_wp2_with fail
        go_roundw
        case rel =>
          refine ⟨k + 1, by omega, by first | rfl | go_num, keepH ⟨fun j hj => ?_, by first | rfl | trivial⟩⟩
          by_cases e : j = k
          · subst e
            rw [HA.out]
            intro h
            exact h1 (by simpa using h)
          · exact HK.out.1 j (by omega)
        case measure => simp [intOf]; omega
    · obtain rfl : k = o.length := by omega
      have t1 : ¬ (o.length : Int) < (o.length : Int) := by omega
      go_wp2_with fail
      go_ret
      refine ⟨-1, by simp, .inr ⟨rfl, fun i hi => ?_⟩, rfl⟩
      exact HK.out.1 i (List.getElem?_eq_some_iff.1 hi).1 hi

structure KJ (l : List Sp) (o : List Int) (t : Sp) (j : Nat) (wr wx : World) : Prop where
  order : ∀ (i : Nat) (b : Int) (s : Sp), i < j → o[i]? = some b → l[b.toNat]? = some s → aheadB t s = false
  chg : Chg (fun _ => False) wr wx
set_option maxRecDepth 100000 in
set_option maxHeartbeats 8000000 in
theorem r_keeps (p q : Option Addr) (c d : Nat) (l : List Sp) (o : List Int) (W : World) (h : SReads W p l) (ho : IReads W q o) (hl : l.length ≤ 4398046511104) (hol : o.length ≤ 17592186044416) :
    Calls Try.prog 10 #[.slice p l.length c, .slice q o.length d] W fun e W' => ∃ v, e = .returned v ∧ (KeepsP l o ∧ v = .bool true ∨ ¬ KeepsP l o ∧ v = .bool false) ∧ Chg (fun _ => False) W W' := by
  have HP := keepH h
  have HO := keepH ho
  have HOL := keepH hol
  clear h ho
  go_enter Try.func10, Try.ntmps10
  go_wp2_with fail
  go_loopw [5] (fun s wr => ∃ k : Nat, k ≤ o.length ∧ s = .int .i64 (k : Int) ∧ Hid (KeepsTo l o k ∧ Chg (fun _ => False) W wr)) (fun s _ => o.length - (intOf s).toNat)
  case atStart => exact ⟨0, by omega, rfl, keepH ⟨KeepsTo.zero l o, Chg.refl _ _⟩⟩
  case round =>
    obtain ⟨k, hk, rfl, HK⟩ := hrel
    by_cases hlt : k < o.length
    · have t1 : (k : Int) < (o.length : Int) := by omega
      obtain ⟨a, ha⟩ : ∃ a, o[k]? = some a := ⟨o[k], List.getElem?_eq_getElem hlt⟩
      have HOR := keepH (HO.out.chg HK.out.2 (fun _ _ x => x))
      obtain ⟨bo, oo, rfl, _, c0⟩ := HOR.out.get k a ha
      have HA := keepH ha
      clear ha
      have no : ∀ wz, Chg (fun _ => False) wr wz → ¬ KeepAt l o k a → ∃ v, Value.bool false = v ∧ (KeepsP l o ∧ v = .bool true ∨ ¬ KeepsP l o ∧ v = .bool false) ∧ Chg (fun _ => False) W wz := fun wz hz hn =>
        ⟨_, rfl, .inr ⟨KeepsP.not HA.out hn, rfl⟩, HK.out.2.trans hz (fun _ _ x => x) (fun _ _ x => x)⟩
      have NO := keepH no
      clear no
      by_cases h1 : a < 0
      · have HH1 := keepH h1
        go_wp2_with fail
        go_ret
        obtain ⟨v, e1, e2, e3⟩ := NO.out wr (Chg.refl _ _) (fun t => by have := t.lo; have := HH1.out; omega)
        exact ⟨v, by rw [← e1]; simp, e2, e3⟩
      · by_cases h2 : (l.length : Int) ≤ a
        · have HH2 := keepH h2
          go_wp2_with fail
          go_ret
          obtain ⟨v, e1, e2, e3⟩ := NO.out wr (Chg.refl _ _) (fun t => by have := t.hi; have := HH2.out; omega)
          exact ⟨v, by rw [← e1]; simp, e2, e3⟩
        · obtain ⟨m, hm⟩ : ∃ m : Nat, a = (m : Int) := ⟨a.toNat, by omega⟩
          subst hm
          have t2 : (m : Int) < (l.length : Int) := by omega
          have dm : decide ((m : Int) < 0) = false := by simp
          have dm2 : decide (l.length ≤ m) = false := by simp; omega
          have dm3 : decide ((l.length : Int) ≤ (m : Int)) = false := by simp; omega
          obtain ⟨t, ht⟩ : ∃ t, l[m]? = some t := ⟨l[m], List.getElem?_eq_getElem (by omega)⟩
          have HT := keepH ht
          clear ht h2
          go_wp2_with fail
          refine (r_place _ _ o (m : Int) _ HOR.out HOL.out).mono ?_
          rintro e w' ⟨x, rfl, hx, rfl⟩
          by_cases h3 : x = (k : Int)
          · have HNW : Hid (∀ i : Nat, i < k → o[i]? ≠ some (m : Int)) := by
              rcases hx with ⟨i, h4, h5, h6⟩ | ⟨h4, _⟩
              · obtain rfl : i = k := by omega
                exact h6
              · omega
            subst h3
            clear hx
            go_wp2_with fail
            clear c0
            obtain ⟨we, hwe⟩ : ∃ we, we = w' := ⟨_, rfl⟩
            rw [← hwe] at HK HOR NO ⊢
            clear hwe
            go_loopw [6] (fun s6 wx => ∃ j : Nat, j ≤ k ∧ s6 = .int .i64 (j : Int) ∧ Hid (KJ l o t j we wx)) (fun s6 _ => k - (intOf s6).toNat)
            case atStart => exact ⟨0, by omega, rfl, keepH ⟨fun i b s hi => by omega, Chg.refl _ _⟩⟩
            case round =>
              obtain ⟨wx, hwx⟩ : ∃ wx, wx = wr := ⟨_, rfl⟩
              rw [← hwx] at hrel ⊢
              clear hwx
              obtain ⟨j, hj, rfl, HJ⟩ := hrel
              by_cases hjk : j < k
              · have t3 : (j : Int) < (k : Int) := by omega
                have t4 : (j : Int) < (o.length : Int) := by omega
                obtain ⟨b, hb⟩ : ∃ b, o[j]? = some b := ⟨o[j], List.getElem?_eq_getElem (by omega)⟩
                obtain ⟨hb0, hb1⟩ := HK.out.1.each j b hjk hb
                obtain ⟨n, hn⟩ : ∃ n : Nat, b = (n : Int) := ⟨b.toNat, by omega⟩
                subst hn
                obtain ⟨s, hs⟩ : ∃ s, l[n]? = some s := ⟨l[n]'(by omega), List.getElem?_eq_getElem _⟩
                have HIX := keepH (HOR.out.chg HJ.out.chg (fun _ _ x => x))
                have HPX := keepH (HP.out.chg (HK.out.2.trans HJ.out.chg (H := fun _ => False) (fun _ _ x => x) (fun _ _ x => x)) (fun _ _ x => x))
                obtain ⟨b1, o1, hbo1, _, i0⟩ := HIX.out.get k (m : Int) HA.out
                simp only [Option.some.injEq, Addr.mk.injEq, and_true] at hbo1
                obtain ⟨rfl, rfl⟩ := hbo1
                obtain ⟨b2, o2, hbo2, _, i1⟩ := HIX.out.get j (n : Int) hb
                simp only [Option.some.injEq, Addr.mk.injEq, and_true] at hbo2
                obtain ⟨rfl, rfl⟩ := hbo2
                obtain ⟨bk, off, rfl, _, d0, d1, d2, d3⟩ := HPX.out.get m t HT.out
                obtain ⟨bk2, off2, hbo3, _, f0, f1, f2, f3⟩ := HPX.out.get n s hs
                simp only [Option.some.injEq, Addr.mk.injEq, and_true] at hbo3
                obtain ⟨rfl, rfl⟩ := hbo3
                have HBJ := keepH hb
                have HSJ := keepH hs
                have t5 : (n : Int) < (l.length : Int) := by omega
                clear hb hs hb0
                obtain ⟨ab, hab⟩ : ∃ ab, aheadB t s = ab := ⟨_, rfl⟩
                have HAB := keepH hab
                clear hab
                go_upto_region 9 with fail
                go_cut [57] from 38 to 57 (fun s57 wz => s57 = .bool ab ∧ Hid (Chg (fun _ => False) wx wz))
                case first =>
                  go_region_with (go_at_call 7; refine (r_ahead_b HAB.out _).mono ?_; rintro e w1 ⟨rfl, C1⟩; have HC1 : Hid (Chg (fun _ => False) wx w1) := ⟨C1.os, C1.tape, C1.output, C1.size, C1.block⟩; clear C1)
                  all_goals (try go_wp2_with fail)
                  all_goals go_meet
                  all_goals exact ⟨by first | rfl | trivial, HC1⟩
                case rest =>
                  obtain ⟨wz, hwz⟩ : ∃ wz, wz = wc := ⟨_, rfl⟩
                  rw [← hwz] at hcut ⊢
                  clear hwz
                  obtain ⟨rfl, HC⟩ := hcut
                  have HCZ := keepH (HJ.out.chg.trans HC.out (H := fun _ => False) (fun _ _ x => x) (fun _ _ x => x))
                  clear d0 d1 d2 d3 f0 f1 f2 f3 i0 i1
                  cases ab with
                  | true =>
                    go_wp2_with fail
                    go_ret
                    obtain ⟨v, e1, e2, e3⟩ := NO.out wz HCZ.out (fun u => by have := u.order j (n : Int) s t hjk HBJ.out (by simpa using HSJ.out) (by simpa using HT.out); rw [HAB.out] at this; simp at this)
                    exact ⟨v, by rw [← e1]; simp, e2, e3⟩
                  | false =>
                    go_wp2_with fail
                    go_roundw
                    case rel =>
                      refine ⟨j + 1, by omega, by first | rfl | go_num, keepH ⟨fun i b u hi hb hu => ?_, HCZ.out⟩⟩
                      by_cases e : i = j
                      · subst e
                        rw [HBJ.out] at hb
                        simp at hb
                        subst hb
                        rw [Int.toNat_natCast, HSJ.out] at hu
                        simp at hu
                        subst hu
                        exact HAB.out
                      · exact HJ.out.order i b u (by omega) hb hu
                    case measure => simp [intOf]; omega
              · obtain rfl : j = k := by omega
                have t3 : ¬ (j : Int) < (j : Int) := by omega
                go_wp2_with fail
                go_roundw
                case rel =>
                  refine ⟨j + 1, by omega, by first | rfl | go_num, keepH ⟨HK.out.1.succ HA.out ⟨by omega, by omega, HNW.out, fun i b s u hi hb hs hu => ?_⟩, HK.out.2.trans HJ.out.chg (fun _ _ x => x) (fun _ _ x => x)⟩⟩
                  rw [Int.toNat_natCast, HT.out] at hu
                  simp at hu
                  subst hu
                  exact HJ.out.order i b s hi hb hs
                case measure => simp [intOf]; omega
          · have HH3 := keepH h3
            have HXX := keepH hx
            have n1 : (x != (k : Int)) = true := bne_iff_ne.2 h3
            have n2 : (x == (k : Int)) = false := beq_eq_false_iff_ne.2 h3
            clear hx
            go_wp2_with fail
            go_ret
            obtain ⟨v, e1, e2, e3⟩ := NO.out _ (Chg.refl _ _) (fun u => by
              rcases HXX.out with ⟨i, h4, h5, h6⟩ | ⟨_, h4⟩
              · by_cases h7 : i < k
                · exact u.new i h7 h4
                · by_cases h8 : i = k
                  · exact HH3.out (by omega)
                  · exact h6 k (by omega) HA.out
              · exact h4 k HA.out)
            exact ⟨v, by rw [← e1]; simp, e2, e3⟩
    · obtain rfl : k = o.length := by omega
      have t1 : ¬ (o.length : Int) < (o.length : Int) := by omega
      go_wp2_with fail
      obtain ⟨we, hwe⟩ : ∃ we, we = wr := ⟨_, rfl⟩
      rw [← hwe] at HK ⊢
      clear hwe
      go_loopw [7] (fun s wx => ∃ j : Nat, j ≤ l.length ∧ s = .int .i64 (j : Int) ∧ Hid (AllIn l o j ∧ wx = we)) (fun s _ => l.length - (intOf s).toNat)
      case atStart => exact ⟨0, by omega, rfl, keepH ⟨fun n s hn => by omega, rfl⟩⟩
      case round =>
        obtain ⟨j, hj, rfl, HJ⟩ := hrel
        have e1 : wr = we := HJ.out.2
        rw [e1]
        clear e1
        by_cases hjl : j < l.length
        · have t2 : (j : Int) < (l.length : Int) := by omega
          obtain ⟨s, hs⟩ : ∃ s, l[j]? = some s := ⟨l[j], List.getElem?_eq_getElem hjl⟩
          obtain ⟨bk, off, rfl, _, d0, d1, d2, d3⟩ := (HP.out.chg HK.out.2 (fun _ _ x => x)).get j s hs
          have HX := keepH hs
          clear hs
          by_cases h3 : 0 ≤ s.to
          · have HH3 := keepH h3
            go_wp2_with fail
            refine (r_place _ _ o (j : Int) _ (HO.out.chg HK.out.2 (fun _ _ x => x)) HOL.out).mono ?_
            rintro e w' ⟨x, rfl, hx, rfl⟩
            have HXX := keepH hx
            by_cases h4 : x < 0
            · have HH4 := keepH h4
              clear hx
              go_wp2_with fail
              go_ret
              refine ⟨.bool false, by simp, .inr ⟨fun hK => ?_, rfl⟩, HK.out.2⟩
              obtain ⟨i, hi⟩ := hK.2 j s hjl HX.out HH3.out
              rcases HXX.out with ⟨i', h5, h6, _⟩ | ⟨_, h5⟩
              · have := HH4.out; omega
              · exact h5 i hi
            · have HH4 := keepH h4
              clear hx
              go_wp2_with fail
              go_roundw
              case rel =>
                refine ⟨j + 1, by omega, by first | rfl | go_num, keepH ⟨HJ.out.1.succ HX.out (fun _ => ?_), by first | rfl | trivial⟩⟩
                rcases HXX.out with ⟨i', h5, h6, _⟩ | ⟨h5, _⟩
                · exact ⟨i', h5⟩
                · have := HH4.out; omega
              case measure => simp [intOf]; omega
          · have HH3 := keepH h3
            go_wp2_with fail
            go_roundw
            case rel => exact ⟨j + 1, by omega, by first | rfl | go_num, keepH ⟨HJ.out.1.succ HX.out (fun h => absurd h HH3.out), by first | rfl | trivial⟩⟩
            case measure => simp [intOf]; omega
        · obtain rfl : j = l.length := by omega
          have t2 : ¬ (l.length : Int) < (l.length : Int) := by omega
          go_wp2_with fail
          go_ret
          exact ⟨.bool true, by simp, .inl ⟨⟨HK.out.1, HJ.out.1⟩, rfl⟩, HK.out.2⟩
end Go.Proofs.Ytaigpbbehlofbaa
