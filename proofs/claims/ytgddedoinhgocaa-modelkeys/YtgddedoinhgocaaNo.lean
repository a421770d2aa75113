/- Content, Held, Fork and Same of any model. -/
import Derived.Test.YtgddedoinhgocaaNn
import Derived.Test.YtgddedoinhgocaaNmc
namespace Go.Proofs.Ytgddedoinhgocaa
open Go.RowKit Go.Maps
set_option linter.unusedVariables false

set_option maxRecDepth 100000 in
theorem m_heldN {W : World} {m nw hd mu : Nat} {f h : Nat → Option Nat} {g : Nat → Nat → Option Nat} {n : Nat} (H : MoAt W m nw hd mu f h g n) {k : Nat} (hk : k < 18446744073709551616) (hh : h k = none) :
    Calls Try.prog 13 #[.pointer (some ⟨m, 0, none⟩), .int .u64 (k : Int)] W fun e W' => e = .returned (.tuple #[.slice none 0 0, .bool false]) ∧ W' = W := by
  have HH := keepH (holds_g H hk)
  rw [hh] at HH
  clear H
  go_enter Try.func13, Try.ntmps13
  go_wp2_with fail
  refine HH.out.mono ?_
  rintro e w1 ⟨rfl, rfl⟩
  go_wp2_with fail
  go_ret2
  exact ⟨by simp, rfl⟩
set_option maxRecDepth 100000 in
theorem m_heldS {W : World} {m nw hd mu : Nat} {f h : Nat → Option Nat} {g : Nat → Nat → Option Nat} {n : Nat} (H : MoAt W m nw hd mu f h g n) (hn : n ≤ 8796093022000) {k b : Nat} (hk : k < 18446744073709551616) (hh : h k = some b) :
    Calls Try.prog 13 #[.pointer (some ⟨m, 0, none⟩), .int .u64 (k : Int)] W fun e W' => (∃ p c l, e = .returned (.tuple #[.slice p l.length c, .bool true]) ∧ Lists (g b) 0 18446744073709551615 l ∧ PairsAt W' p l ∧ l.length ≤ n) ∧ Chg (fun _ => False) W W' := by
  have HH := keepH (holds_g H hk)
  have HB := keepH (c_all (H.pic k b hh) hn)
  have hl2 := HeldAt.look1 H.held hk
  rw [hh] at HH hl2
  have c2 : W.cell? ⟨m, 2, none⟩ = some (.map (some hd)) := cell_of H.md 2
  clear H
  go_enter Try.func13, Try.ntmps13
  go_wp2_with fail
  refine HH.out.mono ?_
  rintro e w1 ⟨rfl, rfl⟩
  go_wp2_with fail
  refine HB.out.mono ?_
  rintro e w2 ⟨⟨v, l, rfl, h1, h2, h3⟩, h4⟩
  obtain ⟨p, c, rfl, hP, hB⟩ := h2.slice
  have HZ : Hid (Lists (g b) 0 18446744073709551615 l ∧ PairsAt w2 p l ∧ l.length ≤ n) := ⟨h1, hP, h3⟩
  have HC := keepH h4
  clear h1 h2 h3 h4 hP hB
  go_wp2_with fail
  go_ret2
  exact ⟨⟨p, c, l, by simp, HZ.out⟩, HC.out⟩
theorem fork_end {W z1 z2 z : World} {m nw hd mu a b : Nat} {f h : Nat → Option Nat} {g : Nat → Nat → Option Nat} {n : Nat} (H : MoAt W m nw hd mu f h g n) (ha : MapAt z a n f) (hb : HeldAt z b n h) (hc : Chg (fun _ => False) W z) (h1 : W.heap.size ≤ a) (h2 : W.heap.size ≤ b) (h3 : a ≠ b) :
    MoAt (z.alloc (.cells #[.int .i64 (mu : Int), .map (some a), .map (some b)] 62)) z.heap.size a b mu f h g n := by
  have hq : Chg (fun _ => False) z (z.alloc (.cells #[.int .i64 (mu : Int), .map (some a), .map (some b)] 62)) := (Chg.refl _ _).alloc _
  have la := MapR.lt ha
  have lb := MapR.lt hb
  refine ⟨heap_alloc_new _ _, MapR.chg ha hq (fun x => x), MapR.chg hb hq (fun x => x), fun k c hk => MapR.chg (MapR.chg (H.pic k c hk) hc (fun x => x)) hq (fun x => x), by omega, by omega, h3, fun k c hk => ?_⟩
  have := H.blk.2.2.2 k c hk
  omega
set_option maxRecDepth 100000 in
set_option maxHeartbeats 4000000 in
theorem m_fork {W : World} {m nw hd mu : Nat} {f h : Nat → Option Nat} {g : Nat → Nat → Option Nat} {n : Nat} (H : MoAt W m nw hd mu f h g n) :
    Calls Try.prog 9 #[.pointer (some ⟨m, 0, none⟩)] W fun e W' => (∃ m' nw' hd', e = .returned (.pointer (some ⟨m', 0, none⟩)) ∧ MoAt W' m' nw' hd' mu f h g n ∧ W.heap.size ≤ m' ∧ W.heap.size ≤ nw' ∧ W.heap.size ≤ hd') ∧ Chg (fun _ => False) W W' := by
  have HN : ∀ w, Chg (fun _ => False) W w → Hid (Calls Try.prog 18 #[.map (some nw)] w fun e w' => e = .returned (.map (some w.heap.size)) ∧ MapAt w' w.heap.size n f ∧ Chg (fun _ => False) w w' ∧ Chg (fun _ => False) W w' ∧ w.heap.size < w'.heap.size) := fun w cw => (MapAt.clone (MapR.chg H.now cw (fun x => x))).mono (by
    rintro e w' ⟨rfl, h1, h2⟩
    exact ⟨rfl, h1, h2, cw.trans h2 (fun _ _ x => x) (fun _ _ x => x), MapR.lt h1⟩)
  have HH : ∀ w, Chg (fun _ => False) W w → Hid (Calls Try.prog 19 #[.map (some hd)] w fun e w' => e = .returned (.map (some w.heap.size)) ∧ HeldAt w' w.heap.size n h ∧ Chg (fun _ => False) w w' ∧ Chg (fun _ => False) W w' ∧ w.heap.size < w'.heap.size) := fun w cw => (HeldAt.clone (MapR.chg H.held cw (fun x => x))).mono (by
    rintro e w' ⟨rfl, h1, h2⟩
    exact ⟨rfl, h1, h2, cw.trans h2 (fun _ _ x => x) (fun _ _ x => x), MapR.lt h1⟩)
  have hS : ∀ w, Chg (fun _ => False) W w → w.cell? ⟨m, 0, none⟩ = some (.int .i64 (mu : Int)) ∧ w.cell? ⟨m, 1, none⟩ = some (.map (some nw)) ∧ w.cell? ⟨m, 2, none⟩ = some (.map (some hd)) := fun w cw => ⟨cell_of (H.quiet cw).md 0, cell_of (H.quiet cw).md 1, cell_of (H.quiet cw).md 2⟩
  have C0 : Chg (fun _ => False) W W := Chg.refl _ _
  have Cd : Chg (fun _ => False) W W.drew := C0.drew
  have HM := keepH H
  clear H
  go_enter Try.func9, Try.ntmps9
  go_upto_region 3 with fail
  go_region_held3 (fun w' => w'.cell? ⟨m, 0, none⟩ = some (.int .i64 (mu : Int)) ∧ w'.cell? ⟨m, 1, none⟩ = some (.map (some nw)) ∧ w'.cell? ⟨m, 2, none⟩ = some (.map (some hd))) (first | exact hS _ (by assumption) | exact hS _ (Chg.alloc (by assumption) _))
    (first | (go_at_call 18; refine (HN _ (by assumption)).out.mono ?_; rintro e z1 ⟨rfl, hN1, hN2, hN3, hN4⟩) | (go_at_call 19; refine (HH _ (by assumption)).out.mono ?_; rintro e z2 ⟨rfl, hH1, hH2, hH3, hH4⟩))
  all_goals (
    (try go_wp2_with fail)
    go_ret
    have hz : W.drew.heap.size = W.heap.size := rfl
    first
      | exact ⟨⟨_, _, _, rfl, fork_end (z1 := z1) (z2 := z2) HM.out (MapR.chg hN1 hH2 (fun x => x)) hH1 hH3 (by omega) (by omega) (by omega), by omega, by omega, by omega⟩, hH3.alloc _⟩
      | exact ⟨⟨_, _, _, rfl, fork_end (z1 := z1) (z2 := z2) HM.out hN1 (MapR.chg hH1 hN2 (fun x => x)) hN3 (by omega) (by omega) (by omega), by omega, by omega, by omega⟩, hN3.alloc _⟩)
set_option maxRecDepth 100000 in
set_option maxHeartbeats 8000000 in
theorem same_true {W : World} {m nw hd mu m' nw' hd' : Nat} {f h h' : Nat → Option Nat} {g g' : Nat → Nat → Option Nat} {n n' : Nat} (H : MoAt W m nw hd mu f h g n) (H' : MoAt W m' nw' hd' mu f h' g' n') (he : pcs h g = pcs h' g') :
    Calls Try.prog 10 #[.pointer (some ⟨m, 0, none⟩), .pointer (some ⟨m', 0, none⟩)] W fun e W' => e = .returned (.bool true) ∧ Chg (fun _ => False) W W' := by
  have HE : ∀ w, Chg (fun _ => False) W w → Hid (Calls Try.prog 20 #[.map (some nw), .map (some nw')] w fun e w' => e = .returned (.bool true) ∧ Chg (fun _ => False) W w') := fun w cw => by
    obtain ⟨D1, o1, r1⟩ := MapR.chg H.now cw (fun x => x)
    obtain ⟨D2, o2, r2⟩ := MapR.chg H'.now cw (fun x => x)
    refine (equal_any (.inr ⟨nw, n, rfl, o1⟩) (.inr ⟨nw', n', rfl, o2⟩)).mono ?_
    rintro e w' ⟨rfl, hg⟩
    exact ⟨by rw [eq_like o1 o2 r1 r2], cw.trans (grown_chg (F := fun _ => False) hg (fun k e => by simp at e)) (fun _ _ x => x) (fun _ _ x => x)⟩
  have HF : ∀ w, Chg (fun _ => False) W w → Hid (Calls Try.prog 21 #[.map (some hd), .map (some hd'), .func (.func 20) #[] #[]] w fun e w' => e = .returned (.bool true) ∧ Chg (fun _ => False) W w') := fun w cw => by
    have M := H.quiet cw
    have M' := H'.quiet cw
    refine (equalF_true M.held M'.held (fun k b hb => ⟨n, M.pic k b hb⟩) (fun k b hb => ⟨n', M'.pic k b hb⟩) he).mono ?_
    rintro e w' ⟨rfl, hg⟩
    exact ⟨rfl, cw.trans hg (fun _ _ x => x) (fun _ _ x => x)⟩
  have hS : ∀ w, Chg (fun _ => False) W w → w.cell? ⟨m, 0, none⟩ = some (.int .i64 (mu : Int)) ∧ w.cell? ⟨m', 0, none⟩ = some (.int .i64 (mu : Int)) ∧ w.cell? ⟨m, 1, none⟩ = some (.map (some nw)) ∧ w.cell? ⟨m', 1, none⟩ = some (.map (some nw')) ∧ w.cell? ⟨m, 2, none⟩ = some (.map (some hd)) ∧ w.cell? ⟨m', 2, none⟩ = some (.map (some hd')) := fun w cw => ⟨cell_of (H.quiet cw).md 0, cell_of (H'.quiet cw).md 0, cell_of (H.quiet cw).md 1, cell_of (H'.quiet cw).md 1, cell_of (H.quiet cw).md 2, cell_of (H'.quiet cw).md 2⟩
  have C0 : Chg (fun _ => False) W W := Chg.refl _ _
  have Cd : Chg (fun _ => False) W W.drew := C0.drew
  clear H H'
  go_enter Try.func10, Try.ntmps10
  go_upto_region 3 with fail
  go_region_held3 (fun w' => w'.cell? ⟨m, 0, none⟩ = some (.int .i64 (mu : Int)) ∧ w'.cell? ⟨m', 0, none⟩ = some (.int .i64 (mu : Int)) ∧ w'.cell? ⟨m, 1, none⟩ = some (.map (some nw)) ∧ w'.cell? ⟨m', 1, none⟩ = some (.map (some nw')) ∧ w'.cell? ⟨m, 2, none⟩ = some (.map (some hd)) ∧ w'.cell? ⟨m', 2, none⟩ = some (.map (some hd'))) (first | exact hS _ (by assumption))
    (first | (go_at_call 20; refine (HE _ (by assumption)).out.mono ?_; rintro e z1 ⟨rfl, hz1⟩) | (go_at_call 21; refine (HF _ (by assumption)).out.mono ?_; rintro e z2 ⟨rfl, hz2⟩))
  all_goals (
    (try go_wp2_with fail)
    go_ret
    exact ⟨by simp, by assumption⟩)
end Go.Proofs.Ytgddedoinhgocaa
