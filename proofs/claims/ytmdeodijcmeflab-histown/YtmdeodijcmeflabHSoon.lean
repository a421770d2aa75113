/- hist.soonestReturns: the two left spans that return soonest. -/
import Derived.Test.YtmdeodijcmeflabHFirstP
import Derived.Test.YtmdeodijcmeflabHRef
import Derived.Test.YtmdeodijcmeflabHRight
namespace Go.Proofs.Ytmdeodijcmeflab
open Go.RowKit Go.Maps

def oI : Option Nat → Int
  | none => -1
  | some a => (a : Int)
theorem oI_none : oI none = -1 := rfl
theorem oI_some (a : Nat) : oI (some a) = (a : Int) := rfl
structure SO (l : List Sp) (bs : List Bool) (W wr : World) (k : Nat) (so se : Option Nat) : Prop where
  soon : Soon l bs k so se
  chg : Chg (fun _ => False) W wr
theorem leftB_of {bs : List Bool} {k : Nat} {b : Bool} (h : bs[k]? = some b) : leftB bs k = b := by unfold leftB; rw [h]; rfl
set_option maxRecDepth 100000 in
set_option maxHeartbeats 8000000 in
theorem h_soon (p q : Option Addr) (c d m : Nat) (l : List Sp) (bs : List Bool) (W : World) (h : SReads W p l) (hb : BReads W q bs) (hm : m ≤ l.length) (hmb : m ≤ bs.length) (hl : l.length ≤ 4398046511104) :
    Calls Try.prog 28 #[.slice p l.length c, .slice q m d] W fun e W' => ∃ so se, e = .returned (.tuple #[.int .i64 (oI so), .int .i64 (oI se)]) ∧ Soon l bs m so se ∧ Chg (fun _ => False) W W' := by
  have HP := keepH h
  have HB := keepH hb
  have HMB := keepH hmb
  clear h hb hmb
  go_enter Try.func28, Try.ntmps28
  go_wp2_with fail
  go_loopw [6, 7, 12] (fun s6 s7 s wr => ∃ (k : Nat) (so se : Option Nat), k ≤ m ∧ s6 = .int .i64 (oI so) ∧ s7 = .int .i64 (oI se) ∧ s = .int .i64 (k : Int) ∧ Hid (SO l bs W wr k so se)) (fun _ _ s _ => m - (intOf s).toNat)
  case atStart => exact ⟨0, none, none, by omega, rfl, rfl, rfl, keepH ⟨Soon.zero l bs, Chg.refl _ _⟩⟩
  case round =>
    obtain ⟨k, so, se, hk, rfl, rfl, rfl, HK⟩ := hrel
    by_cases hlt : k < m
    · have t1 : (k : Int) < (m : Int) := by omega
      have t2 : (k : Int) < (l.length : Int) := by omega
      obtain ⟨s, hs⟩ : ∃ s, l[k]? = some s := ⟨l[k], List.getElem?_eq_getElem (by omega)⟩
      obtain ⟨b, hbk⟩ : ∃ b, bs[k]? = some b := ⟨bs[k]'(by have := HMB.out; omega), List.getElem?_eq_getElem _⟩
      obtain ⟨bb, ob, rfl, _, e0⟩ := (HB.out.chg HK.out.chg (fun _ _ x => x)).get k b hbk
      obtain ⟨bk, off, rfl, _, c0, c1, c2, c3⟩ := (HP.out.chg HK.out.chg (fun _ _ x => x)).get k s hs
      have HX := keepH hs
      have HLB := keepH (leftB_of hbk)
      clear hs hbk
      cases b with
      | false =>
        go_wp2_with fail
        go_roundw
        case rel => exact ⟨k + 1, so, se, by omega, by first | rfl | trivial | go_num, by first | rfl | trivial | go_num, by first | rfl | go_num, keepH ⟨HK.out.soon.skip (fun hc => by have := hc.1; rw [HLB.out] at this; simp at this), HK.out.chg⟩⟩
        case measure => simp [intOf]; omega
      | true =>
        by_cases h3 : s.to < 0
        · have hp : decide (s.to < 0) = true := by simp [h3]
          go_wp2_with fail
          refine (h_pending_b hp _).mono ?_
          rintro e w2 ⟨rfl, C2⟩
          have HC2 := keepH (HK.out.chg.trans C2 (H := fun _ => False) (fun _ _ x => x) (fun _ _ x => x))
          have HH3 := keepH h3
          clear C2 hp h3
          go_wp2_with fail
          go_roundw
          case rel => exact ⟨k + 1, so, se, by omega, by first | rfl | trivial | go_num, by first | rfl | trivial | go_num, by first | rfl | go_num, keepH ⟨HK.out.soon.skip (fun hc => by obtain ⟨_, t, ht, h0⟩ := hc; rw [HX.out] at ht; simp at ht; subst ht; have := HH3.out; omega), HC2.out⟩⟩
          case measure => simp [intOf]; omega
        · have hp : decide (s.to < 0) = false := by simp; omega
          have HCA : Hid (Cand l bs k) := ⟨HLB.out, s, HX.out, by omega⟩
          have HTO : Hid (toAt l k = s.to) := toAt_of HX.out
          go_wp2_with fail
          refine (h_pending_b hp _).mono ?_
          rintro e w2 ⟨rfl, C2⟩
          have HC2 := keepH (HK.out.chg.trans C2 (H := fun _ => False) (fun _ _ x => x) (fun _ _ x => x))
          clear hp h3 C2
          have UB : Hid (∀ n, Chg (fun _ => False) W (w2.drewN n)) := fun n => HC2.out.trans (H := fun _ => False) ⟨rfl, rfl, rfl, Nat.le_refl _, fun _ _ _ => rfl⟩ (fun _ _ x => x) (fun _ _ x => x)
          have HPX := keepH (HP.out.chg HC2.out (fun _ _ x => x))
          clear c0 c1 c2 c3 e0
          cases hso : so with
          | none =>
            rw [hso] at HK
            clear hso
            rw [oI_none]
            go_wp2_with fail
            go_quiet (fail)
            go_wp2_with fail
            go_roundw
            case rel => exact ⟨k + 1, some k, none, by omega, by first | rfl | trivial | go_num, by first | rfl | trivial | go_num, by first | rfl | go_num, keepH ⟨HK.out.soon.first HCA.out (fun x e => by simp at e), UB.out _⟩⟩
            case measure => simp [intOf]; omega
          | some x =>
            rw [hso] at HK
            clear hso
            obtain ⟨hxk, hxc, _⟩ := HK.out.soon.is1 x rfl
            obtain ⟨t, ht, ht0⟩ := hxc.2
            have hxl := (List.getElem?_eq_some_iff.1 ht).1
            have t3 : (x : Int) < (l.length : Int) := by omega
            have dx : decide ((x : Int) < 0) = false := by simp
            have HTX : Hid (toAt l x = t.to) := toAt_of ht
            obtain ⟨bk2, off2, hbo, _, f0, f1, f2, f3⟩ := HPX.out.get x t ht
            simp only [Option.some.injEq, Addr.mk.injEq, and_true] at hbo
            obtain ⟨rfl, rfl⟩ := hbo
            obtain ⟨bk2, off2, hbo, _, c0, c1, c2, c3⟩ := HPX.out.get k s HX.out
            simp only [Option.some.injEq, Addr.mk.injEq, and_true] at hbo
            obtain ⟨rfl, rfl⟩ := hbo
            clear hxc ht ht0 hxl hxk
            rw [oI_some]
            by_cases h5 : s.to < t.to
            · have HH5 := keepH h5
              go_wp2_with fail
              go_quiet (fail)
              go_wp2_with fail
              go_roundw
              case rel => exact ⟨k + 1, some k, some x, by omega, by first | rfl | trivial | go_num, by first | rfl | trivial | go_num, by first | rfl | go_num, keepH ⟨HK.out.soon.first HCA.out (fun y e => by simp at e; subst e; have := HH5.out; have := HTO.out; have := HTX.out; omega), UB.out _⟩⟩
              case measure => simp [intOf]; omega
            · have HH5 := keepH h5
              have HN5 : Hid (toAt l x ≤ toAt l k) := by have := HH5.out; have := HTO.out; have := HTX.out; show _ ≤ _; omega
              cases hse : se with
              | none =>
                rw [hse] at HK
                clear hse
                rw [oI_none]
                go_wp2_with fail
                go_quiet (fail)
                go_wp2_with fail
                go_quiet (fail)
                go_wp2_with fail
                go_roundw
                case rel => exact ⟨k + 1, some x, some k, by omega, by first | rfl | trivial | go_num, by first | rfl | trivial | go_num, by first | rfl | go_num, keepH ⟨HK.out.soon.second (a := x) (by first | rfl | trivial) HCA.out (Int.not_lt.2 HN5.out) (fun y e => by simp at e), HC2.out.trans (H := fun _ => False) ⟨rfl, rfl, rfl, Nat.le_refl _, fun _ _ _ => rfl⟩ (fun _ _ x => x) (fun _ _ x => x)⟩⟩
                case measure => simp [intOf]; omega
              | some y =>
                rw [hse] at HK
                clear hse
                rw [oI_some]
                obtain ⟨_, _, _, hyk, hyc, _⟩ := HK.out.soon.is2 y rfl
                obtain ⟨u, hu, _⟩ := hyc.2
                have hyl := (List.getElem?_eq_some_iff.1 hu).1
                have t4 : (y : Int) < (l.length : Int) := by omega
                have dy : decide ((y : Int) < 0) = false := by simp
                have HTY : Hid (toAt l y = u.to) := toAt_of hu
                obtain ⟨bk2, off2, hbo, _, g0, g1, g2, g3⟩ := HPX.out.get y u hu
                simp only [Option.some.injEq, Addr.mk.injEq, and_true] at hbo
                obtain ⟨rfl, rfl⟩ := hbo
                clear hyc hu hyl hyk
                by_cases h6 : s.to < u.to
                · have HH6 := keepH h6
                  go_wp2_with fail
                  go_quiet (fail)
                  go_wp2_with fail
                  go_quiet (fail)
                  go_wp2_with fail
                  go_roundw
                  case rel => exact ⟨k + 1, some x, some k, by omega, by first | rfl | trivial | go_num, by first | rfl | trivial | go_num, by first | rfl | go_num, keepH ⟨HK.out.soon.second (a := x) (by first | rfl | trivial) HCA.out (Int.not_lt.2 HN5.out) (fun z e => by simp at e; subst e; have := HH6.out; have := HTO.out; have := HTY.out; omega), HC2.out.trans (H := fun _ => False) ⟨rfl, rfl, rfl, Nat.le_refl _, fun _ _ _ => rfl⟩ (fun _ _ x => x) (fun _ _ x => x)⟩⟩
                  case measure => simp [intOf]; omega
                · have HH6 := keepH h6
                  go_wp2_with fail
                  go_quiet (fail)
                  go_wp2_with fail
                  go_quiet (fail)
                  go_wp2_with fail
                  go_roundw
                  case rel => exact ⟨k + 1, some x, some y, by omega, by first | rfl | trivial | go_num, by first | rfl | trivial | go_num, by first | rfl | go_num, keepH ⟨HK.out.soon.keep (a := x) (c := y) (by first | rfl | trivial) (by first | rfl | trivial) (Int.not_lt.2 HN5.out) (by have := HH6.out; have := HTO.out; have := HTY.out; omega), HC2.out.trans (H := fun _ => False) ⟨rfl, rfl, rfl, Nat.le_refl _, fun _ _ _ => rfl⟩ (fun _ _ x => x) (fun _ _ x => x)⟩⟩
                  case measure => simp [intOf]; omega
    · obtain rfl : k = m := by omega
      have t1 : ¬ (k : Int) < (k : Int) := by omega
      go_wp2_with fail
      go_ret2
      exact ⟨so, se, by simp, HK.out.soon, HK.out.chg⟩
end Go.Proofs.Ytmdeodijcmeflab
