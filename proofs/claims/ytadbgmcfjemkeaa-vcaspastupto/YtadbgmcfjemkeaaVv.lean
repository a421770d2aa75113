/- What must be whatever is asked (layer 9). -/
import Derived.Test.YtadbgmcfjemkeaaVu
namespace Go.Proofs.Ytadbgmcfjemkeaa
open Go.RowKit Go.Shelf
set_option linter.unusedVariables false

def D1 (pr : Nat) : Nat → Prop := fun k => k = pr
def LC (W : World) (m b v pr p : Nat) (next made : Nat) (cs : List Nat) (l : List Value) (q : Option Nat) (pos st : Nat) (w : World) : Prop := CS W m b v 128 w next made cs (made + 1) (D1 pr) p 95 l q 1 pos st ∧ Blk w pr 107 (r0L 1 2)
theorem lc_step {W : World} {m b v pr p next made : Nat} {cs : List Nat} {l : List Value} {q : Option Nat} {pos st : Nat} {w : World} (h : LC W m b v pr p next made cs l q pos st w) (d : Bool) (Q T : World → Prop)
    (hs : ∀ w0 D, CS W m b v 128 w0 next made cs (made + 1) D p 95 l q 1 pos st → (D = fun k => D1 pr k ∨ k = w.heap.size) → Calls Try.prog 81 #[.pointer (some ⟨p, 0, none⟩), .pointer (some ⟨v, 0, none⟩)] w0 fun e w' => e = .returned (.bool d) ∧ Q w' ∧ ∀ k, D k → w'.heap[k]? = w0.heap[k]?)
    (hT : ∀ w1, Q w1 → Blk w1 pr 107 (r0L 1 2) → pr ≠ w.heap.size → T (w1.setCell ⟨w.heap.size, 0, none⟩ (.bool d))) :
    Calls Try.prog 35 #[.iface 53 (.pointer (some ⟨p, 0, none⟩)), .pointer (some ⟨v, 0, none⟩)] w fun e w' => e = .returned (.bool d) ∧ T w' := by
  have c0 := h.1.alloc (.cells #[.bool false] 4)
  have hz : pr < w.heap.size := lt_of h.2
  have b0 : Blk (w.alloc (.cells #[.bool false] 4)) pr 107 (r0L 1 2) := alloc_of h.2 _
  refine (so_cas p _ d (fun w1 => Q w1 ∧ Blk w1 pr 107 (r0L 1 2)) w ((hs _ _ c0 rfl).mono ?_)).mono ?_
  · rintro e w1 ⟨rfl, hq, hk⟩
    exact ⟨rfl, ⟨hq, (hk pr (.inl rfl)).trans b0⟩, hk _ (.inr rfl)⟩
  · rintro e w' ⟨rfl, w1, ⟨hq, hb⟩, rfl⟩
    exact ⟨rfl, hT w1 hq hb (by omega)⟩

def LInv (W : World) (m b v pr p : Nat) : Nat → World → Prop
  | 0, w => LC W m b v pr p 5 0 [0, 1, 0, 0, 0] (c0L 1 2 5) none 0 0 w
  | 1, w => LC W m b v pr p 5 1 [0, 1, 0, 0, 0] (c1L 1 2 5) none 0 0 w
  | 2, w => LC W m b v pr p 8 2 [0, 1, 0, 0, 0, 5, 0, 0] (c2L 1 2 5 5) none 0 0 w
  | 3, w => LC W m b v pr p 8 3 [0, 1, 5, 0, 0, 5, 0, 0] (c3L 1 2 5 5 0 (.pointer none) 4 false) none 0 0 w
  | 4, w => ∃ q, LC W m b v pr p 8 4 [0, 1, 5, 0, 0, 5, 0, 0] (c3L 1 2 5 5 1 (.pointer (some ⟨q, 0, none⟩)) 4 true) (some q) 0 0 w
  | 5, w => ∃ q, LC W m b v pr p 8 5 [0, 1, 5, 0, 0, 5, 0, 0] (c3L 1 2 5 5 2 (.pointer (some ⟨q, 0, none⟩)) 4 true) (some q) 2 1 w
  | _, w => ∃ q, LC W m b v pr p 8 6 [0, 1, 5, 0, 0, 5, 1, 0] (c3L 1 2 5 5 3 (.pointer (some ⟨q, 0, none⟩)) 6 true) (some q) 2 1 w
theorem LC.put {W : World} {m b v pr p next made : Nat} {cs : List Nat} {l : List Value} {q : Option Nat} {pos st g : Nat} {w : World} (h : CS W m b v 128 w next made cs (made + 1) (fun k => D1 pr k ∨ k = g) p 95 l q 1 pos st) (hb : Blk w pr 107 (r0L 1 2)) (hne : pr ≠ g) (u : Value) : LC W m b v pr p next made cs l q pos st (w.setCell ⟨g, 0, none⟩ u) :=
  ⟨h.drop u, (Below.heap_setCell _ _ _ _ hne).trans hb⟩
theorem linv_step (W : World) (m b v pr p : Nat) (i : Nat) (w : World) (hi : i ≤ 5) (h : LInv W m b v pr p i w) : Calls Try.prog 35 #[.iface 53 (.pointer (some ⟨p, 0, none⟩)), .pointer (some ⟨v, 0, none⟩)] w fun e w' => e = .returned (.bool (decide (i = 5))) ∧ LInv W m b v pr p (i + 1) w' := by
  match i, hi, h with
  | 0, _, h =>
    refine lc_step h false (fun w1 => CS W m b v 128 w1 5 1 [0, 1, 0, 0, 0] (1 + 1) (fun k => D1 pr k ∨ k = w.heap.size) p 95 (c1L 1 2 5) none 1 0 0) _ (fun w0 D hc hD => ?_) (fun w1 hq hb hne => LC.put hq hb hne _)
    subst hD
    exact cs_s1 hc (by decide) (by decide) (by decide) (by decide) (by decide)
  | 1, _, h =>
    refine lc_step h false (fun w1 => CS W m b v 128 w1 8 2 [0, 1, 0, 0, 0, 5, 0, 0] (2 + 1) (fun k => D1 pr k ∨ k = w.heap.size) p 95 (c2L 1 2 5 5) none 1 0 0) _ (fun w0 D hc hD => ?_) (fun w1 hq hb hne => LC.put hq hb hne _)
    subst hD
    have z := cs_s2 (c := 5) hc (by decide) (by decide) (by decide) (by decide) (by decide)
    rw [show alNext 128 5 3 = 8 by decide, show alN 128 5 [0, 1, 0, 0, 0] [5, 0, 0] = [0, 1, 0, 0, 0, 5, 0, 0] by decide] at z
    exact z
  | 2, _, h =>
    refine lc_step h false (fun w1 => CS W m b v 128 w1 8 3 [0, 1, 5, 0, 0, 5, 0, 0] (3 + 1) (fun k => D1 pr k ∨ k = w.heap.size) p 95 (c3L 1 2 5 5 0 (.pointer none) 4 false) none 1 0 0) _ (fun w0 D hc hD => ?_) (fun w1 hq hb hne => LC.put hq hb hne _)
    subst hD
    have z := cs_s3 hc (by decide) (by decide) (by decide) (by decide) (by decide)
    rw [show casN 128 [0, 1, 0, 0, 0, 5, 0, 0] 2 0 5 = [0, 1, 5, 0, 0, 5, 0, 0] by decide] at z
    exact z
  | 3, _, h =>
    refine lc_step h false (fun w1 => ∃ q, CS W m b v 128 w1 8 4 [0, 1, 5, 0, 0, 5, 0, 0] (4 + 1) (fun k => D1 pr k ∨ k = w.heap.size) p 95 (c3L 1 2 5 5 1 (.pointer (some ⟨q, 0, none⟩)) 4 true) (some q) 1 0 0) _ (fun w0 D hc hD => ?_) (fun w1 hq hb hne => ?_)
    · subst hD
      exact cs_s4 (a := 6) hc (by decide) (by decide) (by decide) (by decide)
    · obtain ⟨q, hq⟩ := hq
      exact ⟨q, LC.put hq hb hne _⟩
  | 4, _, h =>
    obtain ⟨q, h⟩ := h
    refine lc_step h false (fun w1 => CS W m b v 128 w1 8 5 [0, 1, 5, 0, 0, 5, 0, 0] (5 + 1) (fun k => D1 pr k ∨ k = w.heap.size) p 95 (c3L 1 2 5 5 2 (.pointer (some ⟨q, 0, none⟩)) 4 true) (some q) 1 2 1) _ (fun w0 D hc hD => ?_) (fun w1 hq hb hne => ⟨q, LC.put hq hb hne _⟩)
    subst hD
    exact cs_s5 hc (by decide) (by decide) (by decide)
  | 5, _, h =>
    obtain ⟨q, h⟩ := h
    refine lc_step h true (fun w1 => CS W m b v 128 w1 8 6 [0, 1, 5, 0, 0, 5, 1, 0] (6 + 1) (fun k => D1 pr k ∨ k = w.heap.size) p 95 (c3L 1 2 5 5 3 (.pointer (some ⟨q, 0, none⟩)) 6 true) (some q) 1 2 1) _ (fun w0 D hc hD => ?_) (fun w1 hq hb hne => ⟨q, LC.put hq hb hne _⟩)
    subst hD
    have z := cs_s6 (a := 6) hc (by decide) (by decide) (by decide) (by decide)
    rw [show casN 128 [0, 1, 5, 0, 0, 5, 0, 0] 6 0 1 = [0, 1, 5, 0, 0, 5, 1, 0] by decide] at z
    exact z

def RInv (W : World) (m b v pr : Nat) : Nat → World → Prop
  | 0, w => CS W m b v 128 w 8 6 [0, 1, 5, 0, 0, 5, 1, 0] 7 (fun _ => False) pr 107 (r0L 1 2) none 1 0 0
  | 1, w => CS W m b v 128 w 8 7 [0, 1, 5, 0, 0, 5, 1, 0] 8 (fun _ => False) pr 107 (r1L 1 2 5) none 1 0 0
  | 2, w => CS W m b v 128 w 8 8 [0, 1, 5, 0, 0, 5, 1, 0] 9 (fun _ => False) pr 107 (r2L 1 2 5) none 1 0 0
  | _, w => CS W m b v 128 w 8 9 [0, 1, 5, 0, 0, 5, 1, 0] 10 (fun _ => False) pr 107 (r3L 1 2 5 5) none 1 0 0
theorem rc_step {W : World} {m b v pr next made n : Nat} {cs : List Nat} {l : List Value} {w : World} (h : CS W m b v 128 w next made cs n (fun _ => False) pr 107 l none 1 0 0) (d : Bool) {made' n' : Nat} {l' : List Value}
    (hs : ∀ w0 D, CS W m b v 128 w0 next made cs n D pr 107 l none 1 0 0 → Calls Try.prog 72 #[.pointer (some ⟨pr, 0, none⟩), .pointer (some ⟨v, 0, none⟩)] w0 fun e w' => e = .returned (.bool d) ∧ CS W m b v 128 w' next made' cs n' D pr 107 l' none 1 0 0 ∧ ∀ k, D k → w'.heap[k]? = w0.heap[k]?) :
    Calls Try.prog 35 #[.iface 52 (.pointer (some ⟨pr, 0, none⟩)), .pointer (some ⟨v, 0, none⟩)] w fun e w' => e = .returned (.bool d) ∧ CS W m b v 128 w' next made' cs n' (fun _ => False) pr 107 l' none 1 0 0 := by
  have c0 := h.alloc (.cells #[.bool false] 4)
  refine (so_read pr _ d (fun w1 => CS W m b v 128 w1 next made' cs n' (fun k => False ∨ k = w.heap.size) pr 107 l' none 1 0 0) w ((hs _ _ c0).mono ?_)).mono ?_
  · rintro e w1 ⟨rfl, hq, hk⟩
    exact ⟨rfl, hq, hk _ (.inr rfl)⟩
  · rintro e w' ⟨rfl, w1, hq, rfl⟩
    exact ⟨rfl, hq.drop _⟩
theorem rinv_step (W : World) (m b v pr : Nat) (i : Nat) (w : World) (hi : i ≤ 2) (h : RInv W m b v pr i w) : Calls Try.prog 35 #[.iface 52 (.pointer (some ⟨pr, 0, none⟩)), .pointer (some ⟨v, 0, none⟩)] w fun e w' => e = .returned (.bool (decide (i = 2))) ∧ RInv W m b v pr (i + 1) w' := by
  match i, hi, h with
  | 0, _, h => exact rc_step h false (fun w0 D hc => rd_s1 (c := 5) hc (by decide) (by decide) (by decide) (by decide) (by decide))
  | 1, _, h => exact rc_step h false (fun w0 D hc => rd_s2 (a := 6) (s := 1) hc (by decide) (by decide) (by decide) (by decide) (by decide) (by decide))
  | 2, _, h => exact rc_step h true (fun w0 D hc => rd_s3 (x := 5) hc (by decide) (by decide) (by decide) (by decide))

set_option maxRecDepth 100000 in
set_option maxHeartbeats 2000000 in
theorem vc_live (W : World) : Calls Try.prog 8 #[] W fun e W' => e = .returned (.bool true) ∧ Chg (fun _ => False) W W' := by
  go_enter Try.func8, Try.ntmps8
  go_wp2_with fail
  refine (mem_9 W).mono ?_
  rintro e W1 ⟨rfl, M1, B1, C1⟩
  have HM1 := keepH M1
  have HMM : Hid (W.heap.size + 1 < W1.heap.size) := M1.lt
  have HB1 := keepH B1
  have HC1 := keepH C1
  clear M1 B1 C1
  go_wp2_with fail
  refine (cs_new 1 2 0 5 _).mono ?_
  rintro e W2 ⟨p, hp, rfl, P2, C2, S2⟩
  have HP2 := keepH P2
  have HZ2 : Hid (W1.heap.size ≤ p ∧ W2.heap.size = p + 1) := ⟨hp, S2⟩
  have HM2 := keepH (HM1.out.chg C2 (fun x => x))
  have HC2 := keepH C2
  clear hp P2 C2 S2 HM1
  go_wp2_with fail
  refine (rd_new 1 2 _).mono ?_
  rintro e W3 ⟨pr, hpr, rfl, P3, C3, S3⟩
  have HP3 := keepH P3
  have HQ3 := keepH (HP2.out.chg C3 (fun x => x))
  have HZ3 : Hid (W2.heap.size ≤ pr ∧ W3.heap.size = pr + 1) := ⟨hpr, S3⟩
  have HM3 := keepH (HM2.out.chg C3 (fun x => x))
  have HC3 := keepH C3
  clear hpr P3 C3 S3 HM2 HP2
  go_wp2_with fail
  refine (m_view _ W.heap.size 0 _ HM3.out).mono ?_
  rintro e w ⟨rfl, rfl⟩
  obtain ⟨w4, hw4⟩ : ∃ w4, w4 = W3.alloc (.cells #[.iface 110 (.pointer (some ⟨W.heap.size, 0, none⟩)), .int .i64 0, .int .i64 0] 101) := ⟨_, rfl⟩
  have CC4 : Chg (fun _ => False) W3 w4 := by rw [hw4]; exact (Chg.refl _ _).alloc _
  have HV4 : Hid (IsView w4 W3.heap.size W.heap.size 0 0) := by rw [hw4]; exact heap_alloc_new _ _
  have HL : Hid (LInv W (W.heap.size + 1) W.heap.size W3.heap.size pr p 0 w4) := by
    obtain ⟨F, l, B, L, inF, nm⟩ := HB1.out
    have C14 : Chg (fun _ => False) W1 w4 := (HC2.out.trans HC3.out (H := fun _ => False) (fun _ _ x => x) (fun _ _ x => x)).trans CC4 (fun _ _ x => x) (fun _ _ x => x)
    have s1 := HC1.out.size
    have s2 := HC2.out.size
    have s3 := HC3.out.size
    have z2 := HZ2.out
    have z3 := HZ3.out
    have zm := HM3.out.lt
    have S : St W w4 (W.heap.size + 1) W.heap.size W3.heap.size F 0 128 5 0 [0, 1, 0, 0, 0] l := ⟨B.chg C14 (fun _ _ h => h), HV4.out, HM3.out.chg CC4 (fun x => x), fun x => by have := B.lt' _ x; omega, nm, by omega, inF, by omega, HC1.out.trans C14 (fun _ _ x => x) (fun _ _ x => x)⟩
    refine ⟨⟨⟨F, l, S, L, fun k e => ?_⟩, fun e => ?_, fun k e => (by cases e), HQ3.out.chg CC4 (fun x => x)⟩, HP3.out.chg CC4 (fun x => x)⟩
    · have z4 := CC4.size
      have hm1 := HMM.out
      rcases e with e | e | e
      · have e' : k = pr := e
        exact ⟨fun x => by have := B.lt' _ x; omega, by omega, by omega, by omega, by omega⟩
      · exact ⟨fun x => by have := B.lt' _ x; omega, by omega, by omega, by omega, by omega⟩
      · cases e
    · have e' : p = pr := e
      omega
  rw [← hw4]
  clear hw4 CC4 HV4 HM3 HB1 HC1 HC2 HC3 HP3 HQ3
  obtain ⟨v, hv⟩ : ∃ v, v = W3.heap.size := ⟨_, rfl⟩
  rw [← hv] at HL ⊢
  clear hv HZ2 HZ3 HMM
  obtain ⟨m, hm⟩ : ∃ m, m = W.heap.size + 1 := ⟨_, rfl⟩
  rw [← hm] at HL ⊢
  clear hm
  obtain ⟨b, hb⟩ : ∃ b, b = W.heap.size := ⟨_, rfl⟩
  rw [← hb] at HL
  clear hb
  go_wp2_with fail
  refine (alone_any (.iface 53 (.pointer (some ⟨p, 0, none⟩))) (.pointer (some ⟨v, 0, none⟩)) (LInv W m b v pr p) 5 6 (by omega) (by omega) _ HL.out (fun i w hi h => linv_step W m b v pr p i w hi h)).mono ?_
  rintro e w5 ⟨rfl, q, hC, hB⟩
  have HP5 := keepH hC.blk
  have HV5 : Hid (IsView w5 v b 0 6) := by
    obtain ⟨F, l, S, _⟩ := hC.sr
    exact S.view
  have HR5 : Hid (RInv W m b v pr 0 w5) := ⟨hC.sr.mono (fun k e => by
    rcases e with e | e | e
    · exact e.elim
    · exact .inl e
    · cases e), fun e => e, fun k e => (by cases e), hB⟩
  clear hC hB HL
  go_wp2_with fail
  refine (cs_done (b := true) HP5.out rfl rfl).mono ?_
  rintro e w ⟨rfl, rfl⟩
  go_wp2_with fail
  refine (v_accesses _ _ _ _ _ HV5.out).mono ?_
  rintro e w ⟨rfl, rfl⟩
  clear HV5 HP5
  go_wp2_with fail
  refine (alone_any (.iface 52 (.pointer (some ⟨pr, 0, none⟩))) (.pointer (some ⟨v, 0, none⟩)) (RInv W m b v pr) 2 3 (by omega) (by omega) _ HR5.out (fun i w hi h => rinv_step W m b v pr i w hi h)).mono ?_
  rintro e w6 ⟨rfl, hC⟩
  have hC' : CS W m b v 128 w6 8 9 [0, 1, 5, 0, 0, 5, 1, 0] 10 (fun _ => False) pr 107 (r3L 1 2 5 5) none 1 0 0 := hC
  have HP6 := keepH hC'.blk
  have HV6 : Hid (IsView w6 v b 0 9) := by
    obtain ⟨F, l, S, _⟩ := hC'.sr
    exact S.view
  have HC6 := keepH hC'.sr.chg
  clear hC hC' HR5
  go_wp2_with fail
  refine (rd_value (x := 5) HP6.out rfl).mono ?_
  rintro e w ⟨rfl, rfl⟩
  go_wp2_with fail
  refine (v_accesses _ _ _ _ _ HV6.out).mono ?_
  rintro e w ⟨rfl, rfl⟩
  go_wp2_with fail
  go_ret
  exact ⟨by simp, HC6.out⟩
end Go.Proofs.Ytadbgmcfjemkeaa
