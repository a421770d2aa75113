/- Content, Held, Fork and Same of any model. -/
import Derived.Test.YtahgaghokpicgaaGreatF34Nn
import Derived.Test.YtahgaghokpicgaaGreatF31D8h
namespace Go.Proofs.YtahgaghokpicgaaGreat
open Go.RowKit Go.Maps
set_option linter.unusedVariables false
set_option maxHeartbeats 16000000
theorem fork_end {W z1 z2 z : World} {m nw hd mu a b : Nat} {f h : Nat → Option Nat} {g : Nat → Nat → Option Nat} {n : Nat} (H : MoAt W m nw hd mu f h g n) (ha : MapAt z a n f) (hb : HeldAt z b n h) (hc : Chg (fun _ => False) W z) (h1 : W.heap.size ≤ a) (h2 : W.heap.size ≤ b) (h3 : a ≠ b) :
    MoAt (z.alloc (.cells #[.int .i64 mu, .map (some a), .map (some b)] 100)) z.heap.size a b mu f h g n := by
 have hq : Chg (fun _ => False) z (z.alloc (.cells #[.int .i64 mu, .map (some a), .map (some b)] 100)) := (Chg.refl _ _).alloc _
 have la := MapR.lt ha
 have lb := MapR.lt hb
 refine ⟨heap_alloc_new _ _, MapR.chg ha hq (fun x => x), MapR.chg hb hq (fun x => x), fun k c hk => MapR.chg (MapR.chg (H.pic k c hk) hc (fun x => x)) hq (fun x => x), by omega, by omega, h3, fun k c hk => ?_⟩
 have := H.blk.2.2.2 k c hk
 omega
end Go.Proofs.YtahgaghokpicgaaGreat
namespace Go.Proofs.YtahgaghokpicgaaGreat
open Go.RowKit Go.Maps Go.Shelf
open Go.WideElems (Fit rd rg rd_val rg_of)
set_option linter.unusedVariables false
set_option maxHeartbeats 16000000
set_option linter.unusedSimpArgs false
theorem sub_of_len {α : Type} : ∀ (l1 l2 : List α), l1.Nodup → (∀ x ∈ l1, x ∈ l2) → l2.length ≤ l1.length → ∀ x ∈ l2, x ∈ l1 := by
 classical
 intro l1
 induction l1 with
 | nil =>
  intro l2 _ _ hl x hx
  have : l2 = [] := List.eq_nil_of_length_eq_zero (by simpa using hl)
  rw [this] at hx
  cases hx
 | cons a r ih =>
  intro l2 hn hs hl x hx
  have ha := hs a (by simp)
  have hn' := List.nodup_cons.1 hn
  by_cases e : x = a
  ·rw [e]; simp
  ·refine List.mem_cons_of_mem _ (ih (l2.erase a) hn'.2 (fun y hy => ?_) ?_ x ((List.mem_erase_of_ne e).2 hx))
   ·refine (List.mem_erase_of_ne ?_).2 (hs y (List.mem_cons_of_mem _ hy))
    rintro rfl
    exact hn'.1 hy
   ·rw [List.length_erase_of_mem ha]
    simp at hl
    omega
theorem eqD_iff {H : Type} {eqd : DataW H → DataW H → Bool} {el1 el2 : Nat → DataW H} {ok1 ok2 : Nat → Prop} {es1 es2 : List (Lit × DataW H)} {f1 f2 : Nat → Option Nat} (r1 : RdM el1 ok1 (.map es1) f1) (r2 : RdM el2 ok2 (.map es2) f2) (hap1 : es1.Pairwise (fun p q => p.1 ≠ q.1)) (hap2 : es2.Pairwise (fun p q => p.1 ≠ q.1)) (hks1 : ∀ p ∈ es1, ∃ k : Nat, p.1 = .int .u64 k) (hks2 : ∀ p ∈ es2, ∃ k : Nat, p.1 = .int .u64 k) :
    Lib.equalFuncD eqd (.map es1) (.map es2) = true ↔ (∀ k, (f1 k).isSome = (f2 k).isSome) ∧ ∀ k a b, f1 k = some a → f2 k = some b → eqd (el1 a) (el2 b) = true := by
 unfold Lib.equalFuncD
 rw [Bool.and_eq_true, decide_eq_true_eq]
 constructor
 ·rintro ⟨hs, ha⟩
  have hs' : es1.length = es2.length := hs
  have hall := List.all_eq_true.1 ha
  have key : ∀ k v, f1 k = some v → ∃ w, f2 k = some w ∧ eqd (el1 v) (el2 w) = true := by
   intro k v hk
   have hh := r1.has k
   rw [hk] at hh
   obtain ⟨p, hp, hsk⟩ := List.any_eq_true.1 (show es1.any (fun p => p.1.sameKey (.int .u64 k)) = true from hh)
   have e := WideAt.sameKey_eq hsk
   obtain ⟨q, d⟩ := p
   simp only at e
   subst e
   obtain ⟨v', hv', rfl⟩ := r1.entry hap1 hp
   rw [hk] at hv'
   injection hv' with hv'
   subst hv'
   have g := hall _ hp
   unfold Lib.goodD at g
   simp only [Bool.and_eq_true] at g
   rw [r2.has k] at g
   obtain ⟨w, hw⟩ := Option.isSome_iff_exists.1 g.1
   exact ⟨w, hw, by rw [r2.val k w hw] at g; exact g.2⟩
  refine ⟨fun k => ?_, fun k a b h1 h2 => ?_⟩
  ·cases e1 : f1 k with
   | some v =>
    obtain ⟨w, hw, _⟩ := key k v e1
    rw [hw]
    rfl
   | none =>
    cases e2 : f2 k with
    | none => rfl
    | some w =>
     exfalso
     have n1 : (es1.map Prod.fst).Nodup := List.pairwise_map.2 hap1
     have hm := sub_of_len (es1.map Prod.fst) (es2.map Prod.fst) n1 (fun x hx => by
      obtain ⟨k', rfl, hk'⟩ := (r1.key_mem hap1 hks1 x).1 hx
      obtain ⟨v, hv⟩ := Option.isSome_iff_exists.1 hk'
      obtain ⟨w, hw, _⟩ := key k' v hv
      exact (r2.key_mem hap2 hks2 _).2 ⟨k', rfl, by rw [hw]; rfl⟩) (by simp; omega) (.int .u64 k) ((r2.key_mem hap2 hks2 _).2 ⟨k, rfl, by rw [e2]; rfl⟩)
     obtain ⟨k', e, hk'⟩ := (r1.key_mem hap1 hks1 _).1 hm
     injection e with _ e
     obtain rfl : k = k' := by omega
     rw [e1] at hk'
     cases hk'
  ·obtain ⟨w, hw, hq⟩ := key k a h1
   rw [h2] at hw
   injection hw with hw
   subst hw
   exact hq
 ·rintro ⟨hs, hv⟩
  refine ⟨size_like r1 r2 hap1 hap2 hks1 hks2 hs, List.all_eq_true.2 (fun p hp => ?_)⟩
  obtain ⟨q, d⟩ := p
  obtain ⟨k, e⟩ := hks1 _ hp
  simp only at e
  subst e
  obtain ⟨v, hk, rfl⟩ := r1.entry hap1 hp
  obtain ⟨w, hw⟩ := Option.isSome_iff_exists.1 (show (f2 k).isSome = true by rw [← hs k, hk]; rfl)
  unfold Lib.goodD
  simp only
  rw [r2.has k, hw, r2.val k w hw]
  rw [hv k v w hk hw]
  rfl
theorem eqU_iff {W W2 : World} {b1 b2 n1 n2 : Nat} {D1 D2 : DataW Unit} (h1 : W.ownsMap Tryz.prog 30 (plainElem Tryz.prog 30) b1 n1 D1) (h2 : W2.ownsMap Tryz.prog 30 (plainElem Tryz.prog 30) b2 n2 D2) {ok : Nat → Prop} {f1 f2 : Nat → Option Nat} (r1 : RdM elU ok D1 f1) (r2 : RdM elU ok D2 f2) : Lib.equalFuncD eqU D1 D2 = true ↔ f1 = f2 := by
 obtain ⟨es1, rfl, hap1, hks1⟩ := key_shape h1
 obtain ⟨es2, rfl, hap2, hks2⟩ := key_shape h2
 rw [eqD_iff r1 r2 hap1 hap2 hks1 hks2]
 constructor
 ·rintro ⟨hs, hv⟩
  funext k
  cases e1 : f1 k with
  | none =>
   have := hs k
   rw [e1] at this
   cases e2 : f2 k with
   | none => rfl
   | some w => rw [e2] at this; cases this
  | some v =>
   have := hs k
   rw [e1] at this
   cases e2 : f2 k with
   | none => rw [e2] at this; cases this
   | some w =>
    have := hv k v w e1 e2
    rw [eqU_el, decide_eq_true_eq] at this
    rw [this]
 ·rintro rfl
  refine ⟨fun _ => rfl, fun k a b h1 h2 => ?_⟩
  rw [h1] at h2
  injection h2 with h2
  rw [eqU_el, h2]
  simp
theorem equalF_ex {W : World} {b1 b2 n1 n2 : Nat} {h1 h2 : Nat → Option Nat} {g1 g2 : Nat → Nat → Option Nat} (H1 : HeldAt W b1 n1 h1) (H2 : HeldAt W b2 n2 h2) (p1 : ∀ k b, h1 k = some b → ∃ n, MapAt W b n (g1 b)) (p2 : ∀ k b, h2 k = some b → ∃ n, MapAt W b n (g2 b)) {S : Bool} (hS : S = true ↔ pcs h1 g1 = pcs h2 g2) :
    Calls Tryz.prog 34 #[.map (some b1), .map (some b2), .func (.func 33) #[] #[]] W fun e W' => e = .returned (.bool S) ∧ Chg (fun _ => False) W W' := by
 have o1 : ∀ k b, h1 k = some b → OwnC W b := fun k b hb => by
  obtain ⟨n, D, ho, _⟩ := p1 k b hb
  exact ⟨n, D, ho⟩
 have o2 : ∀ k b, h2 k = some b → OwnC W b := fun k b hb => by
  obtain ⟨n, D, ho, _⟩ := p2 k b hb
  exact ⟨n, D, ho⟩
 obtain ⟨m1, D1, q1, r1⟩ := held_own H1 o1
 obtain ⟨m2, D2, q2, r2⟩ := held_own H2 o2
 have eg : ∀ args w, (callFunc 33 args).run Tryz.prog w = .ok (.enter 33 args) w := enters_of Tryz.func33 (by kernel_rfl) rfl
 have hcon := AnyEq.maps_EqualFunc_opt Tryz.laysMF K64 (heldS W) (heldS W) (eqH W) 33 #[] (some b1) (some b2) D1 D2 W eg (.inr ⟨b1, m1, rfl, q1⟩) (.inr ⟨b2, m2, rfl, q2⟩) (.map none) zeroC (.held none) [] rfl
  (fun W' x y xd yd xp yp hg hx hy => by
   obtain ⟨p, rfl, rfl, s1⟩ := heldS_inv hx
   obtain ⟨q, rfl, rfl, s2⟩ := heldS_inv hy
   exact equal_any (s1.kept hg (by cases p <;> simp)) (s2.kept hg (by cases q <;> simp)))
 refine hcon.mono ?_
 rintro e W' ⟨rfl, hg⟩
 refine ⟨?_, grown_chg hg (fun k e => by simp at e)⟩
 congr 2
 obtain ⟨es1, rfl, hap1, hks1⟩ := key_shape q1
 obtain ⟨es2, rfl, hap2, hks2⟩ := key_shape q2
 rw [Bool.eq_iff_iff, eqD_iff r1 r2 hap1 hap2 hks1 hks2, hS]
 have hel : ∀ k a b, h1 k = some a → h2 k = some b → (eqH W (elH a) (elH b) = true ↔ g1 a = g2 b) := by
  intro k a b ha hb
  obtain ⟨x1, y1⟩ := Dp_own (o1 k a ha)
  obtain ⟨x2, y2⟩ := Dp_own (o2 k b hb)
  obtain ⟨n3, D3, ho3, r3⟩ := p1 k a ha
  obtain ⟨n4, D4, ho4, r4⟩ := p2 k b hb
  show Lib.equalFuncD eqU (Dp W (some a)) (Dp W (some b)) = true ↔ _
  exact eqU_iff y1 y2 (ok := fun v => v < 18446744073709551616) (by rw [own_unique y1 ho3]; exact r3) (by rw [own_unique y2 ho4]; exact r4)
 constructor
 ·rintro ⟨hs, hv⟩
  funext k
  have hk := hs k
  unfold pcs
  cases e1 : h1 k with
  | none =>
   rw [e1] at hk
   cases e2 : h2 k with
   | none => rfl
   | some w => rw [e2] at hk; cases hk
  | some v =>
   rw [e1] at hk
   cases e2 : h2 k with
   | none => rw [e2] at hk; cases hk
   | some w => exact congrArg some ((hel k v w e1 e2).1 (hv k v w e1 e2))
 ·intro he
  refine ⟨fun k => ?_, fun k a b ha hb => (hel k a b ha hb).2 ?_⟩
  ·have := congrArg Option.isSome (congrFun he k)
   simpa [pcs] using this
  ·have := congrFun he k
   simp only [pcs, ha, hb, Option.map_some] at this
   injection this
set_option maxRecDepth 100000 in
theorem m_same_ex {W : World} {m nw hd mu m' nw' hd' : Nat} {f f' h h' : Nat → Option Nat} {g g' : Nat → Nat → Option Nat} {n n' : Nat} (H : MoAt W m nw hd mu f h g n) (H' : MoAt W m' nw' hd' mu f' h' g' n') {S : Bool} (hS : S = true ↔ f = f' ∧ pcs h g = pcs h' g') :
    Calls Tryz.prog 10 #[.pointer (some ⟨m, 0, none⟩), .pointer (some ⟨m', 0, none⟩)] W fun e W' => e = .returned (.bool S) ∧ Chg (fun _ => False) W W' := by
 classical
 obtain ⟨S1, hS1⟩ : ∃ S1 : Bool, S1 = true ↔ f = f' := ⟨decide (f = f'), decide_eq_true_iff⟩
 obtain ⟨S2, hS2⟩ : ∃ S2 : Bool, S2 = true ↔ pcs h g = pcs h' g' := ⟨decide (pcs h g = pcs h' g'), decide_eq_true_iff⟩
 obtain rfl : S = (S1 && S2) := by rw [Bool.eq_iff_iff, Bool.and_eq_true, hS, hS1, hS2]
 have HE : ∀ w, Chg (fun _ => False) W w → Hid (Calls Tryz.prog 33 #[.map (some nw), .map (some nw')] w fun e w' => e = .returned (.bool S1) ∧ Chg (fun _ => False) W w') := fun w cw => by
  obtain ⟨D1, o1, r1⟩ := MapR.chg H.now cw (fun x => x)
  obtain ⟨D2, o2, r2⟩ := MapR.chg H'.now cw (fun x => x)
  refine (equal_any (.inr ⟨nw, n, rfl, o1⟩) (.inr ⟨nw', n', rfl, o2⟩)).mono ?_
  rintro e w' ⟨rfl, hg⟩
  exact ⟨by rw [show Lib.equalFuncD eqU D1 D2 = S1 by rw [Bool.eq_iff_iff, eqU_iff o1 o2 r1 r2, hS1]], cw.trans (grown_chg (F := fun _ => False) hg (fun k e => by simp at e)) (fun _ _ x => x) (fun _ _ x => x)⟩
 have HF : ∀ w, Chg (fun _ => False) W w → Hid (Calls Tryz.prog 34 #[.map (some hd), .map (some hd'), .func (.func 33) #[] #[]] w fun e w' => e = .returned (.bool S2) ∧ Chg (fun _ => False) W w') := fun w cw => by
  have M := H.quiet cw
  have M' := H'.quiet cw
  refine (equalF_ex M.held M'.held (fun k b hb => ⟨n, M.pic k b hb⟩) (fun k b hb => ⟨n', M'.pic k b hb⟩) hS2).mono ?_
  rintro e w' ⟨rfl, hg⟩
  exact ⟨rfl, cw.trans hg (fun _ _ x => x) (fun _ _ x => x)⟩
 have hC : ∀ w, Chg (fun _ => False) W w → w.cell? ⟨m, 0, none⟩ = some (.int .i64 mu) ∧ w.cell? ⟨m', 0, none⟩ = some (.int .i64 mu) ∧ w.cell? ⟨m, 1, none⟩ = some (.map (some nw)) ∧ w.cell? ⟨m', 1, none⟩ = some (.map (some nw')) ∧ w.cell? ⟨m, 2, none⟩ = some (.map (some hd)) ∧ w.cell? ⟨m', 2, none⟩ = some (.map (some hd')) := fun w cw => ⟨cell_of (H.quiet cw).md 0, cell_of (H'.quiet cw).md 0, cell_of (H.quiet cw).md 1, cell_of (H'.quiet cw).md 1, cell_of (H.quiet cw).md 2, cell_of (H'.quiet cw).md 2⟩
 have C0 : Chg (fun _ => False) W W := Chg.refl _ _
 have Cd : Chg (fun _ => False) W W.drew := C0.drew
 clear H H' hS hS1 hS2
 cases S1 with
 | false =>
  go_enter Tryz.func10, Tryz.ntmps10
  go_upto_region 3 with fail
  refine wp_region_held_drew (S := (fun w' => w'.cell? ⟨m, 0, none⟩ = some (.int .i64 mu) ∧ w'.cell? ⟨m', 0, none⟩ = some (.int .i64 mu) ∧ w'.cell? ⟨m, 1, none⟩ = some (.map (some nw)) ∧ w'.cell? ⟨m', 1, none⟩ = some (.map (some nw')) ∧ w'.cell? ⟨m, 2, none⟩ = some (.map (some hd)) ∧ w'.cell? ⟨m', 2, none⟩ = some (.map (some hd')))) (by kernel_rfl) (by first | exact hC _ C0 | exact hC _ Cd) ?_
  intro hHeld
  refine wT (v := ?_) 0 rfl (by rfl) ?_ hHeld ?_
  rotate_left
  ·intro w hSw
   try dsimp only at hSw
   go_simp
   try with_reducible rfl
  try simp only [Act.put, lj]
  refine wT (v := ?_) 1 rfl (by rfl) ?_ hHeld ?_
  rotate_left
  ·intro w hSw
   try dsimp only at hSw
   go_simp
   try with_reducible rfl
  try simp only [Act.put, lj]
  refine wT (v := ?_) 2 rfl (by rfl) ?_ hHeld ?_
  rotate_left
  ·intro w hSw
   try dsimp only at hSw
   go_simp
   try with_reducible rfl
  try simp only [Act.put, lj]
  refine wT (v := ?_) 3 rfl (by rfl) ?_ hHeld ?_
  rotate_left
  ·intro w hSw
   try dsimp only at hSw
   go_simp
   try with_reducible rfl
  try simp only [Act.put, lj]
  refine wT (v := ?_) 4 rfl (by rfl) ?_ hHeld ?_
  rotate_left
  ·intro w hSw
   try dsimp only at hSw
   go_simp
   try with_reducible rfl
  try simp only [Act.put, lj]
  refine wT (v := ?_) 5 rfl (by rfl) ?_ hHeld ?_
  rotate_left
  ·intro w hSw
   try dsimp only at hSw
   go_simp
   try with_reducible rfl
  try simp only [Act.put, lj]
  refine wT (v := ?_) 6 rfl (by rfl) ?_ hHeld ?_
  rotate_left
  ·intro w hSw
   try dsimp only at hSw
   go_simp
   try with_reducible rfl
  try simp only [Act.put, lj]
  refine wT (v := ?_) 7 rfl (by rfl) ?_ hHeld ?_
  rotate_left
  ·intro w hSw
   try dsimp only at hSw
   go_simp
   try with_reducible rfl
  try simp only [Act.put, lj]
  refine wT (v := ?_) 8 rfl (by rfl) ?_ hHeld ?_
  rotate_left
  ·intro w hSw
   try dsimp only at hSw
   go_simp
   try with_reducible rfl
  try simp only [Act.put, lj]
  refine wT (v := ?_) 9 rfl (by rfl) ?_ hHeld ?_
  rotate_left
  ·intro w hSw
   try dsimp only at hSw
   go_simp
   try with_reducible rfl
  try simp only [Act.put, lj]
  refine wT (v := ?_) 10 rfl (by rfl) ?_ hHeld ?_
  rotate_left
  ·intro w hSw
   try dsimp only at hSw
   go_simp
   try with_reducible rfl
  try simp only [Act.put, lj]
  refine wT (v := ?_) 11 rfl (by rfl) ?_ hHeld ?_
  rotate_left
  ·intro w hSw
   try dsimp only at hSw
   go_simp
   try with_reducible rfl
  try simp only [Act.put, lj]
  refine wT (v := ?_) 12 rfl (by rfl) ?_ hHeld ?_
  rotate_left
  ·intro w hSw
   try dsimp only at hSw
   go_simp
   try with_reducible rfl
  try simp only [Act.put, lj]
  refine wT (v := ?_) 13 rfl (by rfl) ?_ hHeld ?_
  rotate_left
  ·intro w hSw
   try dsimp only at hSw
   go_simp
   try with_reducible rfl
  try simp only [Act.put, lj]
  refine wT (v := ?_) 14 rfl (by rfl) ?_ hHeld ?_
  rotate_left
  ·intro w hSw
   try dsimp only at hSw
   go_simp
   try with_reducible rfl
  try simp only [Act.put, lj]
  refine wT (v := ?_) 15 rfl (by rfl) ?_ hHeld ?_
  rotate_left
  ·intro w hSw
   try dsimp only at hSw
   go_simp
   try with_reducible rfl
  try simp only [Act.put, lj]
  refine wT (v := ?_) 16 rfl (by rfl) ?_ hHeld ?_
  rotate_left
  ·intro w hSw
   try dsimp only at hSw
   go_simp
   try with_reducible rfl
  try simp only [Act.put, lj]
  refine wT (v := ?_) 17 rfl (by rfl) ?_ hHeld ?_
  rotate_left
  ·intro w hSw
   try dsimp only at hSw
   go_simp
   try with_reducible rfl
  try simp only [Act.put, lj]
  refine wR 18 rfl (fun KK hKK => ?_)
  go_simp
  refine (HE _ Cd).out.mono ?_
  rintro e z1 ⟨rfl, hz1⟩
  have hcc := hC _ hz1
  refine hKK.out _ _ ?_ (fun hHeld => ?_)
  ·exact hcc
  clear hKK KK
  try simp only [Act.put, lj]
  refine wT (v := ?_) 19 rfl (by rfl) ?_ hHeld ?_
  rotate_left
  ·intro w hSw
   try dsimp only at hSw
   go_simp
   try with_reducible rfl
  try simp only [Act.put, lj]
  refine wT (v := ?_) 20 rfl (by rfl) ?_ hHeld ?_
  rotate_left
  ·intro w hSw
   try dsimp only at hSw
   go_simp
   try with_reducible rfl
  try simp only [Act.put, lj]
  refine wK 21 rfl hHeld ?_
  try simp only [Act.put, lj]
  refine wK 22 rfl hHeld ?_
  try simp only [Act.put, lj]
  refine wK 23 rfl hHeld ?_
  try simp only [Act.put, lj]
  refine wK 24 rfl hHeld ?_
  try simp only [Act.put, lj]
  refine wK 25 rfl hHeld ?_
  try simp only [Act.put, lj]
  refine wK 26 rfl hHeld ?_
  try simp only [Act.put, lj]
  refine wK 27 rfl hHeld ?_
  try simp only [Act.put, lj]
  refine wK 28 rfl hHeld ?_
  try simp only [Act.put, lj]
  refine wK 29 rfl hHeld ?_
  try simp only [Act.put, lj]
  refine wT (v := ?_) 30 rfl (by rfl) ?_ hHeld ?_
  rotate_left
  ·intro w hSw
   try dsimp only at hSw
   go_simp
   try with_reducible rfl
  try simp only [Act.put, lj]
  refine wT (v := ?_) 31 rfl (by rfl) ?_ hHeld ?_
  rotate_left
  ·intro w hSw
   try dsimp only at hSw
   go_simp
   try with_reducible rfl
  try simp only [Act.put, lj]
  refine wpAnyH_done (by kernel_rfl) ?_ _
  go_simp
  all_goals (
   (try go_wp2_with fail)
   go_ret
   exact ⟨by simp, by assumption⟩)
 | true =>
  go_enter Tryz.func10, Tryz.ntmps10
  go_upto_region 3 with fail
  go_region_held3 (fun w' => w'.cell? ⟨m, 0, none⟩ = some (.int .i64 mu) ∧ w'.cell? ⟨m', 0, none⟩ = some (.int .i64 mu) ∧ w'.cell? ⟨m, 1, none⟩ = some (.map (some nw)) ∧ w'.cell? ⟨m', 1, none⟩ = some (.map (some nw')) ∧ w'.cell? ⟨m, 2, none⟩ = some (.map (some hd)) ∧ w'.cell? ⟨m', 2, none⟩ = some (.map (some hd'))) (first | exact hC _ (by assumption))
   (first | (go_at_call 33; refine (HE _ (by assumption)).out.mono ?_; rintro e z1 ⟨rfl, hz1⟩) | (go_at_call 34; refine (HF _ (by assumption)).out.mono ?_; rintro e z2 ⟨rfl, hz2⟩))
  all_goals (
   (try go_wp2_with fail)
   go_ret
   exact ⟨by simp, by assumption⟩)
end Go.Proofs.YtahgaghokpicgaaGreat
namespace Go.Proofs.YtahgaghokpicgaaGreat
open Go.RowKit Go.Maps
set_option linter.unusedVariables false
set_option maxHeartbeats 16000000
theorem rising_eq {α : Type} : ∀ {l₁ l₂ : List (Nat × α)}, l₁.Pairwise (fun a b => a.1 < b.1) → l₂.Pairwise (fun a b => a.1 < b.1) → (∀ p, p ∈ l₁ ↔ p ∈ l₂) → l₁ = l₂
 | [], [], _, _, _ => rfl
 | [], y :: r, _, _, h => absurd ((h y).2 (by simp)) (by simp)
 | x :: r, [], _, _, h => absurd ((h x).1 (by simp)) (by simp)
 | x :: r, y :: s, h1, h2, h => by
  obtain ⟨a1, b1⟩ := List.pairwise_cons.1 h1
  obtain ⟨a2, b2⟩ := List.pairwise_cons.1 h2
  have e : x = y := by
   rcases List.mem_cons.1 ((h x).1 (by simp)) with e | e
   ·exact e
   ·rcases List.mem_cons.1 ((h y).2 (by simp)) with e' | e'
    ·exact e'.symm
    ·have q1 := a2 x e
     have q2 := a1 y e'
     omega
  subst e
  rw [rising_eq b1 b2 (fun p => ?_)]
  constructor
  ·intro hp
   rcases List.mem_cons.1 ((h p).1 (by simp [hp])) with e | e
   ·subst e; have := a1 p hp; omega
   ·exact e
  ·intro hp
   rcases List.mem_cons.1 ((h p).2 (by simp [hp])) with e | e
   ·subst e; have := a2 p hp; omega
   ·exact e
def Low64 (f : Nat → Option Nat) : Prop := ∀ k v, f k = some v → k < 18446744073709551616
theorem lists_iff {f f' : Nat → Option Nat} {l l' : List (Nat × Nat)} (h : Lists f 0 18446744073709551615 l) (h' : Lists f' 0 18446744073709551615 l') (b : Low64 f) (b' : Low64 f') : l = l' ↔ f = f' := by
 constructor
 ·rintro rfl
  funext k
  cases e : f k with
  | some v =>
   have := b k v e
   exact ((h'.2 k v).1 ((h.2 k v).2 ⟨e, by omega, by omega⟩)).1.symm
  | none =>
   cases e' : f' k with
   | none => rfl
   | some v =>
    have := b' k v e'
    have := ((h.2 k v).1 ((h'.2 k v).2 ⟨e', by omega, by omega⟩)).1
    rw [e] at this
    cases this
 ·rintro rfl
  exact h.unique h'
def sideL (H : HeldL) : List (Nat × List (Nat × Nat)) := H.map (fun z => (z.1, z.2.2))
theorem held_iff {H1 H2 : HeldL} (r1 : Rising H1) (r2 : Rising H2) (l1 : ∀ z ∈ H1, Lists z.2.1 0 18446744073709551615 z.2.2) (l2 : ∀ z ∈ H2, Lists z.2.1 0 18446744073709551615 z.2.2) (b1 : ∀ z ∈ H1, Low64 z.2.1) (b2 : ∀ z ∈ H2, Low64 z.2.1) : sideL H1 = sideL H2 ↔ hP H1 = hP H2 := by
 have half : ∀ {A B : HeldL}, Rising A → Rising B → (∀ z ∈ A, Lists z.2.1 0 18446744073709551615 z.2.2) → (∀ z ∈ B, Lists z.2.1 0 18446744073709551615 z.2.2) → (∀ z ∈ A, Low64 z.2.1) → (∀ z ∈ B, Low64 z.2.1) → sideL A = sideL B → ∀ z ∈ A, z ∈ B := by
  intro A B rA rB lA lB bA bB e z hz
  have hm : (z.1, z.2.2) ∈ sideL B := by rw [← e]; exact List.mem_map.2 ⟨z, hz, rfl⟩
  obtain ⟨y, hy, e2⟩ := List.mem_map.1 hm
  injection e2 with e2 e3
  have := (lists_iff (lB y hy) (lA z hz) (bB y hy) (bA z hz)).1 e3
  obtain ⟨y1, y2, y3⟩ := y
  obtain ⟨z1, z2, z3⟩ := z
  simp only at e2 e3 this
  subst e2 e3 this
  exact hy
 constructor
 ·intro e
  rw [rising_eq r1 r2 (fun z => ⟨half r1 r2 l1 l2 b1 b2 e z, half r2 r1 l2 l1 b2 b1 e.symm z⟩)]
 ·intro e
  have get : ∀ {A B : HeldL}, Rising A → Rising B → (∀ z ∈ A, Lists z.2.1 0 18446744073709551615 z.2.2) → (∀ z ∈ B, Lists z.2.1 0 18446744073709551615 z.2.2) → hP A = hP B → ∀ z ∈ A, z ∈ B := by
   intro A B rA rB lA lB e z hz
   have h1 := hP_some rA hz
   rw [e] at h1
   obtain ⟨y, hy, e2⟩ := (hP_isSome rB z.1).1 (by rw [h1]; rfl)
   have h2 := hP_some rB hy
   rw [e2, h1] at h2
   injection h2 with h2
   have h3 := lA z hz
   rw [h2] at h3
   have h4 := (lB y hy).unique h3
   obtain ⟨y1, y2, y3⟩ := y
   obtain ⟨z1, z2, z3⟩ := z
   simp only at e2 h2 h4
   subst e2 h2 h4
   exact hy
  rw [rising_eq r1 r2 (fun z => ⟨get r1 r2 l1 l2 e z, get r2 r1 l2 l1 e.symm z⟩)]
end Go.Proofs.YtahgaghokpicgaaGreat
