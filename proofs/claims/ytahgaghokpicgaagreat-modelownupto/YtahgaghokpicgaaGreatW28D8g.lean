/- Both models asked what they tell: alike. -/
import Derived.Test.YtahgaghokpicgaaGreatW27ZeS
namespace Go.Proofs.YtahgaghokpicgaaGreat
open Go.RowKit Go.Maps
set_option linter.unusedVariables false
set_option maxHeartbeats 16000000
set_option linter.unusedSimpArgs false
def BothAt (W : World) (b m r : Nat) : Prop := W.heap[b]? = some (.cells #[.pointer (some ⟨m, 0, none⟩), .pointer (some ⟨r, 0, none⟩)] 45 (0, 0))
def TellsP (w : World) (L : List (Nat × Nat)) (e : Ending) (w' : World) : Prop := (∃ p c, e = .returned (.slice p L.length c) ∧ PairsAt w' p L) ∧ Chg (fun _ => False) w w'
def TellsU (w : World) (L : List Nat) (e : Ending) (w' : World) : Prop := (∃ p c, e = .returned (.slice p L.length c) ∧ KeysAt w' p L) ∧ Chg (fun _ => False) w w'
def TellsH (w : World) (L : List (Nat × Nat)) (ok : Bool) (e : Ending) (w' : World) : Prop := (∃ p c, e = .returned (.tuple #[.slice p L.length c, .bool ok]) ∧ PairsAt w' p L) ∧ Chg (fun _ => False) w w'
set_option maxRecDepth 100000 in
theorem alike_of {W : World} {b m r : Nat} {L : List (Nat × Nat)} {ss : List Nat} {wl : Nat → List (Nat × Nat)} {ok : Nat → Bool} (hb : BothAt W b m r) (hL : L.length ≤ 17592186044416) (hss : ss.length ≤ 17592186044416) (hsm : ∀ k ∈ ss, k < 18446744073709551616) (hw : ∀ k, (wl k).length ≤ 17592186044416) (h0 : ok 0 = false)
    (hR : Calls Tryz.prog 21 #[.pointer (some ⟨r, 0, none⟩)] W (TellsU W ss))
    (hC : ∀ w, Chg (fun _ => False) W w → Calls Tryz.prog 18 #[.pointer (some ⟨m, 0, none⟩)] w (TellsP w L))
    (hD : ∀ w, Chg (fun _ => False) W w → Calls Tryz.prog 36 #[.pointer (some ⟨r, 0, none⟩)] w (TellsP w L))
    (hH : ∀ w, Chg (fun _ => False) W w → Calls Tryz.prog 20 #[.pointer (some ⟨m, 0, none⟩)] w (TellsU w ss))
    (hA : ∀ w, Chg (fun _ => False) W w → ∀ k : Nat, k < 18446744073709551616 → Calls Tryz.prog 22 #[.pointer (some ⟨m, 0, none⟩), .int .u64 k] w (TellsH w (wl k) (ok k)))
    (hB : ∀ w, Chg (fun _ => False) W w → ∀ k : Nat, k < 18446744073709551616 → Calls Tryz.prog 38 #[.pointer (some ⟨r, 0, none⟩), .int .u64 k] w (TellsH w (wl k) (ok k))) :
    Calls Tryz.prog 11 #[.pointer (some ⟨b, 0, none⟩)] W fun e W' => e = .returned (.bool true) ∧ Chg (fun _ => False) W W' := by
 have hS : ∀ w, Chg (fun _ => False) W w → w.cell? ⟨b, 0, none⟩ = some (.pointer (some ⟨m, 0, none⟩)) ∧ w.cell? ⟨b, 1, none⟩ = some (.pointer (some ⟨r, 0, none⟩)) := fun w cw => ⟨cell_of ((cw.block _ (lt_of hb) (fun x => x)).trans hb) 0, cell_of ((cw.block _ (lt_of hb) (fun x => x)).trans hb) 1⟩
 have HSB := keepH hS
 have HC := keepH hC
 have HD := keepH hD
 have HH := keepH hH
 have HA := keepH hA
 have HB := keepH hB
 have HLN : Hid (L.length ≤ 17592186044416 ∧ ss.length ≤ 17592186044416 ∧ (∀ k ∈ ss, k < 18446744073709551616) ∧ (∀ k, (wl k).length ≤ 17592186044416) ∧ ok 0 = false) := ⟨hL, hss, hsm, hw, h0⟩
 have HR := keepH hR
 have c1 := (hS W (Chg.refl _ _)).2
 clear hb hS hC hD hH hA hB hL hss hsm hw h0 hR
 go_enter Tryz.func11, Tryz.ntmps11
 go_wp2_with fail
 refine HR.out.mono ?_
 rintro e w1 ⟨⟨p0, c0, rfl, hk0⟩, C1⟩
 have HK0 := keepH hk0
 have HC1 := keepH C1
 have C1r : Chg (fun _ => False) w1 w1 := Chg.refl _ _
 have C1d : Chg (fun _ => False) w1 w1.drew := C1r.drew
 obtain ⟨LL, hLL⟩ : ∃ x, x = L.length := ⟨_, rfl⟩
 obtain ⟨n, hn⟩ : ∃ x, x = ss.length := ⟨_, rfl⟩
 have HN := keepH hn
 have H1 : ∀ w, Chg (fun _ => False) w1 w → Hid (Calls Tryz.prog 18 #[.pointer (some ⟨m, 0, none⟩)] w fun e w' => ∃ p c, e = .returned (.slice p LL c) ∧ Hid (PairsAt w' p L) ∧ Chg (fun _ => False) w1 w' ∧ Hid (Chg (fun _ => False) w w')) := fun w cw => (HC.out w (chgF HC1.out cw)).mono (by rintro e w' ⟨⟨p, c, rfl, hp⟩, hc⟩; exact ⟨p, c, by rw [hLL], hp, chgF cw hc, hc⟩)
 have H2 : ∀ w, Chg (fun _ => False) w1 w → Hid (Calls Tryz.prog 36 #[.pointer (some ⟨r, 0, none⟩)] w fun e w' => ∃ p c, e = .returned (.slice p LL c) ∧ Hid (PairsAt w' p L) ∧ Chg (fun _ => False) w1 w' ∧ Hid (Chg (fun _ => False) w w')) := fun w cw => (HD.out w (chgF HC1.out cw)).mono (by rintro e w' ⟨⟨p, c, rfl, hp⟩, hc⟩; exact ⟨p, c, by rw [hLL], hp, chgF cw hc, hc⟩)
 have H3 : ∀ w, Chg (fun _ => False) w1 w → ∀ p c p' c', Hid (PairsAt w p L) → Hid (PairsAt w p' L) → Hid (Calls Tryz.prog 35 #[.slice p LL c, .slice p' LL c'] w fun e w' => e = .returned (.bool true) ∧ Chg (fun _ => False) w1 w') := fun w cw p c p' c' hp hp' => by
  have q := s_pairs p p' c c' L L w hp.out hp'.out HLN.out.1 HLN.out.1
  rw [show decide (L = L) = true from by simp, ← hLL] at q
  exact q.mono (by rintro e w' ⟨rfl, c⟩; exact ⟨rfl, chgF cw c⟩)
 have H4 : ∀ w, Chg (fun _ => False) w1 w → Hid (Calls Tryz.prog 20 #[.pointer (some ⟨m, 0, none⟩)] w fun e w' => ∃ p c, e = .returned (.slice p n c) ∧ Hid (KeysAt w' p ss) ∧ Chg (fun _ => False) w1 w') := fun w cw => (HH.out w (chgF HC1.out cw)).mono (by rintro e w' ⟨⟨p, c, rfl, hp⟩, hc⟩; exact ⟨p, c, by rw [hn], hp, chgF cw hc⟩)
 have H5 : ∀ w, Chg (fun _ => False) w1 w → ∀ p c, Hid (KeysAt w p ss) → Hid (Calls Tryz.prog 37 #[.slice p n c, .slice p0 n c0] w fun e w' => e = .returned (.bool true) ∧ Chg (fun _ => False) w1 w') := fun w cw p c hp => by
  have q := same_u p p0 c c0 ss w hp.out (HK0.out.chg cw (fun _ _ _ x => x)) (by have := HLN.out.2.1; omega)
  rw [← hn] at q
  exact q.mono (by rintro e w' ⟨rfl, c⟩; exact ⟨rfl, chgF cw c⟩)
 have HSW : Hid (∀ w, Chg (fun _ => False) w1 w → w.cell? ⟨b, 0, none⟩ = some (.pointer (some ⟨m, 0, none⟩)) ∧ w.cell? ⟨b, 1, none⟩ = some (.pointer (some ⟨r, 0, none⟩))) := fun w cw => HSB.out w (chgF HC1.out cw)
 have HLE := keepH hLL
 clear hLL
 have HNN := keepH hn
 rw [← hn]
 clear c1 hk0 C1 HC HD HH HR HSB hn
 go_upto_region 2 with fail
 refine wp_region_held_drew (S := fun w' => w'.cell? ⟨b, 0, none⟩ = some (.pointer (some ⟨m, 0, none⟩)) ∧ w'.cell? ⟨b, 1, none⟩ = some (.pointer (some ⟨r, 0, none⟩))) (by kernel_rfl) (HSW.out _ C1d) ?_
 intro hHeld
 refine wT (v := ?_) 0 rfl (by rfl) ?_ hHeld ?_
 rotate_left
 ·intro w hSw
  try dsimp only at hSw
  go_simp
  try with_reducible rfl
 try simp only [Act.put, lj]
 refine wT (v := ?_) 1 rfl (by rfl) ?_ hHeld ?_
 rotate_left
 ·intro w hSw
  try dsimp only at hSw
  go_simp
  try with_reducible rfl
 try simp only [Act.put, lj]
 refine wT (v := ?_) 2 rfl (by rfl) ?_ hHeld ?_
 rotate_left
 ·intro w hSw
  try dsimp only at hSw
  go_simp
  try with_reducible rfl
 try simp only [Act.put, lj]
 refine wT (v := ?_) 3 rfl (by rfl) ?_ hHeld ?_
 rotate_left
 ·intro w hSw
  try dsimp only at hSw
  obtain ⟨y0, y1⟩ := hSw
  go_simp
  try with_reducible rfl
 try simp only [Act.put, lj]
 refine wT (v := ?_) 5 rfl (by rfl) ?_ hHeld ?_
 rotate_left
 ·intro w hSw
  try dsimp only at hSw
  go_simp
  try with_reducible rfl
 try simp only [Act.put, lj]
 refine wT (v := ?_) 6 rfl (by rfl) ?_ hHeld ?_
 rotate_left
 ·intro w hSw
  try dsimp only at hSw
  go_simp
  try with_reducible rfl
 try simp only [Act.put, lj]
 refine wT (v := ?_) 7 rfl (by rfl) ?_ hHeld ?_
 rotate_left
 ·intro w hSw
  try dsimp only at hSw
  go_simp
  try with_reducible rfl
 try simp only [Act.put, lj]
 refine wT (v := ?_) 8 rfl (by rfl) ?_ hHeld ?_
 rotate_left
 ·intro w hSw
  try dsimp only at hSw
  obtain ⟨y0, y1⟩ := hSw
  go_simp
  try with_reducible rfl
 try simp only [Act.put, lj]
 refine wR 4 rfl (fun KK hKK => ?_)
 go_simp
 refine (H1 _ C1d).out.mono ?_
 rintro e z1 ⟨p1, q1, rfl, hp1, hz1, hy1⟩
 refine hKK.out _ _ ?_ (fun hHeld => ?_)
 ·exact HSW.out _ hz1
 clear hKK KK
 try simp only [Act.put, lj]
 refine wR 9 rfl (fun KK hKK => ?_)
 go_simp
 refine (H2 _ hz1).out.mono ?_
 rintro e z2 ⟨p2, q2, rfl, hp2, hz2, hy2⟩
 refine hKK.out _ _ ?_ (fun hHeld => ?_)
 ·exact HSW.out _ hz2
 clear hKK KK
 try simp only [Act.put, lj]
 refine wR 10 rfl (fun KK hKK => ?_)
 go_simp
 refine (H3 _ hz2 p1 q1 p2 q2 (hp1.out.chg hy2.out) hp2).out.mono ?_
 rintro e z3 ⟨rfl, hz3⟩
 refine hKK.out _ _ ?_ (fun hHeld => ?_)
 ·exact HSW.out _ hz3
 clear hKK KK
 try simp only [Act.put, lj]
 refine wT (v := ?_) 11 rfl (by rfl) ?_ hHeld ?_
 rotate_left
 ·intro w hSw
  try dsimp only at hSw
  go_simp
  try with_reducible rfl
 try simp only [Act.put, lj]
 refine wT (v := ?_) 12 rfl (by rfl) ?_ hHeld ?_
 rotate_left
 ·intro w hSw
  try dsimp only at hSw
  go_simp
  try with_reducible rfl
 try simp only [Act.put, lj]
 refine wT (v := ?_) 13 rfl (by rfl) ?_ hHeld ?_
 rotate_left
 ·intro w hSw
  try dsimp only at hSw
  go_simp
  try with_reducible rfl
 try simp only [Act.put, lj]
 refine wT (v := ?_) 14 rfl (by rfl) ?_ hHeld ?_
 rotate_left
 ·intro w hSw
  try dsimp only at hSw
  go_simp
  try with_reducible rfl
 try simp only [Act.put, lj]
 refine wT (v := ?_) 15 rfl (by rfl) ?_ hHeld ?_
 rotate_left
 ·intro w hSw
  try dsimp only at hSw
  go_simp
  try with_reducible rfl
 try simp only [Act.put, lj]
 refine wT (v := ?_) 16 rfl (by rfl) ?_ hHeld ?_
 rotate_left
 ·intro w hSw
  try dsimp only at hSw
  obtain ⟨y0, y1⟩ := hSw
  go_simp
  try with_reducible rfl
 try simp only [Act.put, lj]
 refine wT (v := ?_) 18 rfl (by rfl) ?_ hHeld ?_
 rotate_left
 ·intro w hSw
  try dsimp only at hSw
  go_simp
  try with_reducible rfl
 try simp only [Act.put, lj]
 refine wR 17 rfl (fun KK hKK => ?_)
 go_simp
 refine (H4 _ hz3).out.mono ?_
 rintro e z4 ⟨p4, q4, rfl, hp4, hz4⟩
 refine hKK.out _ _ ?_ (fun hHeld => ?_)
 ·exact HSW.out _ hz4
 clear hKK KK
 try simp only [Act.put, lj]
 refine wR 19 rfl (fun KK hKK => ?_)
 go_simp
 refine (H5 _ hz4 p4 q4 hp4).out.mono ?_
 rintro e z5 ⟨rfl, hz5⟩
 refine hKK.out _ _ ?_ (fun hHeld => ?_)
 ·exact HSW.out _ hz5
 clear hKK KK
 try simp only [Act.put, lj]
 refine wT (v := ?_) 20 rfl (by rfl) ?_ hHeld ?_
 rotate_left
 ·intro w hSw
  try dsimp only at hSw
  go_simp
  try with_reducible rfl
 try simp only [Act.put, lj]
 refine wT (v := ?_) 21 rfl (by rfl) ?_ hHeld ?_
 rotate_left
 ·intro w hSw
  try dsimp only at hSw
  go_simp
  try with_reducible rfl
 try simp only [Act.put, lj]
 refine wpAnyH_done (by kernel_rfl) ?_ _
 go_simp
 clear hHeld hp1 hp2 hp4 hy1 hy2 hz1 hz2 hz3 hz4 H1 H2 H4 H5 HN
 have HZ5 := keepH hz5
 clear hz5
 go_wp2_with fail
 have hn9 : n ≤ 17592186044416 := by have := HLN.out.2.1; have := HNN.out; omega
 go_loopw [4] (fun s4 wr => ∃ i : Nat, i ≤ n ∧ s4 = .int .i64 i ∧ Hid (Chg (fun _ => False) w1 wr)) (fun s4 _ => n - (intOf s4).toNat)
 case atStart => exact ⟨0, by omega, rfl, HZ5⟩
 case round =>
  obtain ⟨i, hi2, rfl, HKR⟩ := hrel
  by_cases hlt : i < n
  ·have t1 : (i : Int) < (n : Int) := by omega
   have t0 : (0 : Int) ≤ (i : Int) := by omega
   obtain ⟨k, hk⟩ : ∃ y, ss[i]? = some y := ⟨ss[i]'(by have := HNN.out; omega), List.getElem?_eq_getElem _⟩
   obtain ⟨bk, off, rfl, -⟩ := HK0.out.get (Chg.refl _ _) hk
   have HSK : Hid (∀ w, Chg (fun _ => False) w1 w → w.cell? ⟨b, 0, none⟩ = some (.pointer (some ⟨m, 0, none⟩)) ∧ w.cell? ⟨b, 1, none⟩ = some (.pointer (some ⟨r, 0, none⟩)) ∧ w.cell? ⟨bk, off + i, none⟩ = some (.int .u64 k)) := fun w cw => ⟨(HSW.out w cw).1, (HSW.out w cw).2, by
    obtain ⟨bk', off', e, q⟩ := HK0.out.get cw hk
    injection e with e
    injection e with e1 e2
    subst e1 e2
    exact q⟩
   have HKk : Hid (k < 18446744073709551616) := HLN.out.2.2.1 k (List.mem_of_getElem? hk)
   obtain ⟨j, hj⟩ : ∃ j : Nat, j = (k + 1) % 18446744073709551616 := ⟨_, rfl⟩
   have HKj : Hid (j < 18446744073709551616) := by show _ < _; omega
   have HJ := keepH hj
   obtain ⟨wnk, hwnk⟩ : ∃ x, x = (wl k).length := ⟨_, rfl⟩
   obtain ⟨okk, hokk⟩ : ∃ x, x = ok k := ⟨_, rfl⟩
   have HWk : Hid (wnk = (wl k).length ∧ okk = ok k) := ⟨hwnk, hokk⟩
   obtain ⟨wnj, hwnj⟩ : ∃ x, x = (wl j).length := ⟨_, rfl⟩
   obtain ⟨okj, hokj⟩ : ∃ x, x = ok j := ⟨_, rfl⟩
   have HWj : Hid (wnj = (wl j).length ∧ okj = ok j) := ⟨hwnj, hokj⟩
   clear hwnk hokk hwnj hokj hk
   have Ak : ∀ w, Chg (fun _ => False) w1 w → Hid (Calls Tryz.prog 22 #[.pointer (some ⟨m, 0, none⟩), .int .u64 k] w fun e w' => ∃ p c, e = .returned (.tuple #[.slice p wnk c, .bool okk]) ∧ Hid (PairsAt w' p (wl k)) ∧ Chg (fun _ => False) w1 w' ∧ Hid (Chg (fun _ => False) w w')) := fun w cw => (HA.out w (chgF HC1.out cw) k HKk.out).mono (by rintro e w' ⟨⟨p, c, rfl, hp⟩, hc⟩; exact ⟨p, c, by rw [HWk.out.1, HWk.out.2], hp, chgF cw hc, hc⟩)
   have Bk : ∀ w, Chg (fun _ => False) w1 w → Hid (Calls Tryz.prog 38 #[.pointer (some ⟨r, 0, none⟩), .int .u64 k] w fun e w' => ∃ p c, e = .returned (.tuple #[.slice p wnk c, .bool okk]) ∧ Hid (PairsAt w' p (wl k)) ∧ Chg (fun _ => False) w1 w' ∧ Hid (Chg (fun _ => False) w w')) := fun w cw => (HB.out w (chgF HC1.out cw) k HKk.out).mono (by rintro e w' ⟨⟨p, c, rfl, hp⟩, hc⟩; exact ⟨p, c, by rw [HWk.out.1, HWk.out.2], hp, chgF cw hc, hc⟩)
   have Aj : ∀ w, Chg (fun _ => False) w1 w → Hid (Calls Tryz.prog 22 #[.pointer (some ⟨m, 0, none⟩), .int .u64 j] w fun e w' => ∃ p c, e = .returned (.tuple #[.slice p wnj c, .bool okj]) ∧ Hid (PairsAt w' p (wl j)) ∧ Chg (fun _ => False) w1 w' ∧ Hid (Chg (fun _ => False) w w')) := fun w cw => (HA.out w (chgF HC1.out cw) j HKj.out).mono (by rintro e w' ⟨⟨p, c, rfl, hp⟩, hc⟩; exact ⟨p, c, by rw [HWj.out.1, HWj.out.2], hp, chgF cw hc, hc⟩)
   have Bj : ∀ w, Chg (fun _ => False) w1 w → Hid (Calls Tryz.prog 38 #[.pointer (some ⟨r, 0, none⟩), .int .u64 j] w fun e w' => ∃ p c, e = .returned (.tuple #[.slice p wnj c, .bool okj]) ∧ Hid (PairsAt w' p (wl j)) ∧ Chg (fun _ => False) w1 w' ∧ Hid (Chg (fun _ => False) w w')) := fun w cw => (HB.out w (chgF HC1.out cw) j HKj.out).mono (by rintro e w' ⟨⟨p, c, rfl, hp⟩, hc⟩; exact ⟨p, c, by rw [HWj.out.1, HWj.out.2], hp, chgF cw hc, hc⟩)
   have Sk : ∀ w, Chg (fun _ => False) w1 w → ∀ p c p' c', Hid (PairsAt w p (wl k)) → Hid (PairsAt w p' (wl k)) → Hid (Calls Tryz.prog 35 #[.slice p wnk c, .slice p' wnk c'] w fun e w' => e = .returned (.bool true) ∧ Chg (fun _ => False) w1 w') := fun w cw p c p' c' hp hp' => by
    have q := s_pairs p p' c c' (wl k) (wl k) w hp.out hp'.out (HLN.out.2.2.2.1 _) (HLN.out.2.2.2.1 _)
    rw [show decide (wl k = wl k) = true from by simp, ← HWk.out.1] at q
    exact q.mono (by rintro e w' ⟨rfl, c⟩; exact ⟨rfl, chgF cw c⟩)
   have Sj : ∀ w, Chg (fun _ => False) w1 w → ∀ p c p' c', Hid (PairsAt w p (wl j)) → Hid (PairsAt w p' (wl j)) → Hid (Calls Tryz.prog 35 #[.slice p wnj c, .slice p' wnj c'] w fun e w' => e = .returned (.bool true) ∧ Chg (fun _ => False) w1 w') := fun w cw p c p' c' hp hp' => by
    have q := s_pairs p p' c c' (wl j) (wl j) w hp.out hp'.out (HLN.out.2.2.2.1 _) (HLN.out.2.2.2.1 _)
    rw [show decide (wl j = wl j) = true from by simp, ← HWj.out.1] at q
    exact q.mono (by rintro e w' ⟨rfl, c⟩; exact ⟨rfl, chgF cw c⟩)
   have tj : IntKind.u64.wrap ((k : Int) + 1) = (j : Int) := by rw [HJ.out]; rw [IntKind.wrap_u64]; omega
   clear hj
   go_wp2_with fail
   have Cdu1 : Chg (fun _ => False) w1 wr.drew := HKR.out.drew
   go_upto_region 7 with fail
   refine wp_region_held_drew (S := fun w' => w'.cell? ⟨b, 0, none⟩ = some (.pointer (some ⟨m, 0, none⟩)) ∧ w'.cell? ⟨b, 1, none⟩ = some (.pointer (some ⟨r, 0, none⟩)) ∧ w'.cell? ⟨bk, off + i, none⟩ = some (.int .u64 k)) (by kernel_rfl) (HSK.out _ Cdu1) ?_
   intro hHeld
   refine wT (v := ?_) 0 rfl (by rfl) ?_ hHeld ?_
   rotate_left
   ·intro w hSw
    try dsimp only at hSw
    go_simp
    try with_reducible rfl
   try simp only [Act.put, lj]
   refine wT (v := ?_) 1 rfl (by rfl) ?_ hHeld ?_
   rotate_left
   ·intro w hSw
    try dsimp only at hSw
    go_simp
    try with_reducible rfl
   try simp only [Act.put, lj]
   refine wT (v := ?_) 2 rfl (by rfl) ?_ hHeld ?_
   rotate_left
   ·intro w hSw
    try dsimp only at hSw
    go_simp
    try with_reducible rfl
   try simp only [Act.put, lj]
   refine wT (v := ?_) 3 rfl (by rfl) ?_ hHeld ?_
   rotate_left
   ·intro w hSw
    try dsimp only at hSw
    obtain ⟨y0, y1, y2⟩ := hSw
    go_simp
    try with_reducible rfl
   try simp only [Act.put, lj]
   refine wT (v := ?_) 4 rfl (by rfl) ?_ hHeld ?_
   rotate_left
   ·intro w hSw
    try dsimp only at hSw
    go_simp
    try with_reducible rfl
   try simp only [Act.put, lj]
   refine wT (v := ?_) 5 rfl (by rfl) ?_ hHeld ?_
   rotate_left
   ·intro w hSw
    try dsimp only at hSw
    go_simp
    try with_reducible rfl
   try simp only [Act.put, lj]
   refine wT (v := ?_) 6 rfl (by rfl) ?_ hHeld ?_
   rotate_left
   ·intro w hSw
    try dsimp only at hSw
    go_simp
    try with_reducible rfl
   try simp only [Act.put, lj]
   refine wT (v := ?_) 7 rfl (by rfl) ?_ hHeld ?_
   rotate_left
   ·intro w hSw
    try dsimp only at hSw
    obtain ⟨y0, y1, y2⟩ := hSw
    go_simp
    try with_reducible rfl
   try simp only [Act.put, lj]
   refine wR 8 rfl (fun KK hKK => ?_)
   go_simp
   refine (Ak _ Cdu1).out.mono ?_
   rintro e u1 ⟨pu1, qu1, rfl, hu1, hzu1, hyu1⟩
   refine hKK.out _ _ ?_ (fun hHeld => ?_)
   ·exact HSK.out _ hzu1
   clear hKK KK
   try simp only [Act.put, lj]
   refine wT (v := ?_) 9 rfl (by rfl) ?_ hHeld ?_
   rotate_left
   ·intro w hSw
    try dsimp only at hSw
    go_simp
    try with_reducible rfl
   try simp only [Act.put, lj]
   refine wT (v := ?_) 10 rfl (by rfl) ?_ hHeld ?_
   rotate_left
   ·intro w hSw
    try dsimp only at hSw
    go_simp
    try with_reducible rfl
   try simp only [Act.put, lj]
   refine wT (v := ?_) 11 rfl (by rfl) ?_ hHeld ?_
   rotate_left
   ·intro w hSw
    try dsimp only at hSw
    go_simp
    try with_reducible rfl
   try simp only [Act.put, lj]
   refine wT (v := ?_) 12 rfl (by rfl) ?_ hHeld ?_
   rotate_left
   ·intro w hSw
    try dsimp only at hSw
    go_simp
    try with_reducible rfl
   try simp only [Act.put, lj]
   refine wT (v := ?_) 13 rfl (by rfl) ?_ hHeld ?_
   rotate_left
   ·intro w hSw
    try dsimp only at hSw
    go_simp
    try with_reducible rfl
   try simp only [Act.put, lj]
   refine wpAnyH_done (by kernel_rfl) ?_ _
   go_simp
   have Cdu2 : Chg (fun _ => False) w1 u1.drew := hzu1.drew
   clear hHeld
   go_upto_region 8 with fail
   refine wp_region_held_drew (S := fun w' => w'.cell? ⟨b, 0, none⟩ = some (.pointer (some ⟨m, 0, none⟩)) ∧ w'.cell? ⟨b, 1, none⟩ = some (.pointer (some ⟨r, 0, none⟩)) ∧ w'.cell? ⟨bk, off + i, none⟩ = some (.int .u64 k)) (by kernel_rfl) (HSK.out _ Cdu2) ?_
   intro hHeld
   refine wT (v := ?_) 0 rfl (by rfl) ?_ hHeld ?_
   rotate_left
   ·intro w hSw
    try dsimp only at hSw
    go_simp
    try with_reducible rfl
   try simp only [Act.put, lj]
   refine wT (v := ?_) 1 rfl (by rfl) ?_ hHeld ?_
   rotate_left
   ·intro w hSw
    try dsimp only at hSw
    go_simp
    try with_reducible rfl
   try simp only [Act.put, lj]
   refine wT (v := ?_) 2 rfl (by rfl) ?_ hHeld ?_
   rotate_left
   ·intro w hSw
    try dsimp only at hSw
    go_simp
    try with_reducible rfl
   try simp only [Act.put, lj]
   refine wT (v := ?_) 3 rfl (by rfl) ?_ hHeld ?_
   rotate_left
   ·intro w hSw
    try dsimp only at hSw
    obtain ⟨y0, y1, y2⟩ := hSw
    go_simp
    try with_reducible rfl
   try simp only [Act.put, lj]
   refine wT (v := ?_) 4 rfl (by rfl) ?_ hHeld ?_
   rotate_left
   ·intro w hSw
    try dsimp only at hSw
    go_simp
    try with_reducible rfl
   try simp only [Act.put, lj]
   refine wT (v := ?_) 5 rfl (by rfl) ?_ hHeld ?_
   rotate_left
   ·intro w hSw
    try dsimp only at hSw
    go_simp
    try with_reducible rfl
   try simp only [Act.put, lj]
   refine wT (v := ?_) 6 rfl (by rfl) ?_ hHeld ?_
   rotate_left
   ·intro w hSw
    try dsimp only at hSw
    go_simp
    try with_reducible rfl
   try simp only [Act.put, lj]
   refine wT (v := ?_) 7 rfl (by rfl) ?_ hHeld ?_
   rotate_left
   ·intro w hSw
    try dsimp only at hSw
    obtain ⟨y0, y1, y2⟩ := hSw
    go_simp
    try with_reducible rfl
   try simp only [Act.put, lj]
   refine wR 8 rfl (fun KK hKK => ?_)
   go_simp
   refine (Bk _ Cdu2).out.mono ?_
   rintro e u2 ⟨pu2, qu2, rfl, hu2, hzu2, hyu2⟩
   refine hKK.out _ _ ?_ (fun hHeld => ?_)
   ·exact HSK.out _ hzu2
   clear hKK KK
   try simp only [Act.put, lj]
   refine wT (v := ?_) 9 rfl (by rfl) ?_ hHeld ?_
   rotate_left
   ·intro w hSw
    try dsimp only at hSw
    go_simp
    try with_reducible rfl
   try simp only [Act.put, lj]
   refine wT (v := ?_) 10 rfl (by rfl) ?_ hHeld ?_
   rotate_left
   ·intro w hSw
    try dsimp only at hSw
    go_simp
    try with_reducible rfl
   try simp only [Act.put, lj]
   refine wT (v := ?_) 11 rfl (by rfl) ?_ hHeld ?_
   rotate_left
   ·intro w hSw
    try dsimp only at hSw
    go_simp
    try with_reducible rfl
   try simp only [Act.put, lj]
   refine wT (v := ?_) 12 rfl (by rfl) ?_ hHeld ?_
   rotate_left
   ·intro w hSw
    try dsimp only at hSw
    go_simp
    try with_reducible rfl
   try simp only [Act.put, lj]
   refine wT (v := ?_) 13 rfl (by rfl) ?_ hHeld ?_
   rotate_left
   ·intro w hSw
    try dsimp only at hSw
    go_simp
    try with_reducible rfl
   try simp only [Act.put, lj]
   refine wpAnyH_done (by kernel_rfl) ?_ _
   go_simp
   clear hHeld
   have HPA : Hid (PairsAt u2 pu1 (wl k)) := hu1.out.chg (chgF ((Chg.refl (fun _ => False) u1).drew) hyu2.out)
   have nbk : (okk != okk) = false := by cases okk <;> rfl
   go_wp2_with fail
   refine (Sk _ hzu2 _ _ _ _ HPA hu2).out.mono ?_
   rintro e u3 ⟨rfl, hzu3⟩
   clear hu1 hu2 hyu1 hyu2 HPA
   go_wp2_with fail
   have Cdu4 : Chg (fun _ => False) w1 u3.drew := hzu3.drew
   go_upto_region 11 with fail
   refine wp_region_held_drew (S := fun w' => w'.cell? ⟨b, 0, none⟩ = some (.pointer (some ⟨m, 0, none⟩)) ∧ w'.cell? ⟨b, 1, none⟩ = some (.pointer (some ⟨r, 0, none⟩)) ∧ w'.cell? ⟨bk, off + i, none⟩ = some (.int .u64 k)) (by kernel_rfl) (HSK.out _ Cdu4) ?_
   intro hHeld
   refine wT (v := ?_) 0 rfl (by rfl) ?_ hHeld ?_
   rotate_left
   ·intro w hSw
    try dsimp only at hSw
    go_simp
    try with_reducible rfl
   try simp only [Act.put, lj]
   refine wT (v := ?_) 1 rfl (by rfl) ?_ hHeld ?_
   rotate_left
   ·intro w hSw
    try dsimp only at hSw
    go_simp
    try with_reducible rfl
   try simp only [Act.put, lj]
   refine wT (v := ?_) 2 rfl (by rfl) ?_ hHeld ?_
   rotate_left
   ·intro w hSw
    try dsimp only at hSw
    go_simp
    try with_reducible rfl
   try simp only [Act.put, lj]
   refine wT (v := ?_) 3 rfl (by rfl) ?_ hHeld ?_
   rotate_left
   ·intro w hSw
    try dsimp only at hSw
    obtain ⟨y0, y1, y2⟩ := hSw
    go_simp
    try with_reducible rfl
   try simp only [Act.put, lj]
   refine wT (v := ?_) 4 rfl (by rfl) ?_ hHeld ?_
   rotate_left
   ·intro w hSw
    try dsimp only at hSw
    go_simp
    try with_reducible rfl
   try simp only [Act.put, lj]
   refine wT (v := ?_) 5 rfl (by rfl) ?_ hHeld ?_
   rotate_left
   ·intro w hSw
    try dsimp only at hSw
    go_simp
    try with_reducible rfl
   try simp only [Act.put, lj]
   refine wT (v := ?_) 6 rfl (by rfl) ?_ hHeld ?_
   rotate_left
   ·intro w hSw
    try dsimp only at hSw
    go_simp
    try with_reducible rfl
   try simp only [Act.put, lj]
   refine wT (v := ?_) 7 rfl (by rfl) ?_ hHeld ?_
   rotate_left
   ·intro w hSw
    try dsimp only at hSw
    obtain ⟨y0, y1, y2⟩ := hSw
    go_simp
    try with_reducible rfl
   try simp only [Act.put, lj]
   refine wT (v := ?_) 8 rfl (by rfl) ?_ hHeld ?_
   rotate_left
   ·intro w hSw
    try dsimp only at hSw
    go_simp
    try with_reducible rfl
   try simp only [Act.put, lj]
   refine wR 9 rfl (fun KK hKK => ?_)
   go_simp
   refine (Aj _ Cdu4).out.mono ?_
   rintro e u4 ⟨pu4, qu4, rfl, hu4, hzu4, hyu4⟩
   refine hKK.out _ _ ?_ (fun hHeld => ?_)
   ·exact HSK.out _ hzu4
   clear hKK KK
   try simp only [Act.put, lj]
   refine wT (v := ?_) 10 rfl (by rfl) ?_ hHeld ?_
   rotate_left
   ·intro w hSw
    try dsimp only at hSw
    go_simp
    try with_reducible rfl
   try simp only [Act.put, lj]
   refine wT (v := ?_) 11 rfl (by rfl) ?_ hHeld ?_
   rotate_left
   ·intro w hSw
    try dsimp only at hSw
    go_simp
    try with_reducible rfl
   try simp only [Act.put, lj]
   refine wT (v := ?_) 12 rfl (by rfl) ?_ hHeld ?_
   rotate_left
   ·intro w hSw
    try dsimp only at hSw
    go_simp
    try with_reducible rfl
   try simp only [Act.put, lj]
   refine wT (v := ?_) 13 rfl (by rfl) ?_ hHeld ?_
   rotate_left
   ·intro w hSw
    try dsimp only at hSw
    go_simp
    try with_reducible rfl
   try simp only [Act.put, lj]
   refine wT (v := ?_) 14 rfl (by rfl) ?_ hHeld ?_
   rotate_left
   ·intro w hSw
    try dsimp only at hSw
    go_simp
    try with_reducible rfl
   try simp only [Act.put, lj]
   refine wpAnyH_done (by kernel_rfl) ?_ _
   go_simp
   have Cdu5 : Chg (fun _ => False) w1 u4.drew := hzu4.drew
   clear hHeld
   go_upto_region 12 with fail
   refine wp_region_held_drew (S := fun w' => w'.cell? ⟨b, 0, none⟩ = some (.pointer (some ⟨m, 0, none⟩)) ∧ w'.cell? ⟨b, 1, none⟩ = some (.pointer (some ⟨r, 0, none⟩)) ∧ w'.cell? ⟨bk, off + i, none⟩ = some (.int .u64 k)) (by kernel_rfl) (HSK.out _ Cdu5) ?_
   intro hHeld
   refine wT (v := ?_) 0 rfl (by rfl) ?_ hHeld ?_
   rotate_left
   ·intro w hSw
    try dsimp only at hSw
    go_simp
    try with_reducible rfl
   try simp only [Act.put, lj]
   refine wT (v := ?_) 1 rfl (by rfl) ?_ hHeld ?_
   rotate_left
   ·intro w hSw
    try dsimp only at hSw
    go_simp
    try with_reducible rfl
   try simp only [Act.put, lj]
   refine wT (v := ?_) 2 rfl (by rfl) ?_ hHeld ?_
   rotate_left
   ·intro w hSw
    try dsimp only at hSw
    go_simp
    try with_reducible rfl
   try simp only [Act.put, lj]
   refine wT (v := ?_) 3 rfl (by rfl) ?_ hHeld ?_
   rotate_left
   ·intro w hSw
    try dsimp only at hSw
    obtain ⟨y0, y1, y2⟩ := hSw
    go_simp
    try with_reducible rfl
   try simp only [Act.put, lj]
   refine wT (v := ?_) 4 rfl (by rfl) ?_ hHeld ?_
   rotate_left
   ·intro w hSw
    try dsimp only at hSw
    go_simp
    try with_reducible rfl
   try simp only [Act.put, lj]
   refine wT (v := ?_) 5 rfl (by rfl) ?_ hHeld ?_
   rotate_left
   ·intro w hSw
    try dsimp only at hSw
    go_simp
    try with_reducible rfl
   try simp only [Act.put, lj]
   refine wT (v := ?_) 6 rfl (by rfl) ?_ hHeld ?_
   rotate_left
   ·intro w hSw
    try dsimp only at hSw
    go_simp
    try with_reducible rfl
   try simp only [Act.put, lj]
   refine wT (v := ?_) 7 rfl (by rfl) ?_ hHeld ?_
   rotate_left
   ·intro w hSw
    try dsimp only at hSw
    obtain ⟨y0, y1, y2⟩ := hSw
    go_simp
    try with_reducible rfl
   try simp only [Act.put, lj]
   refine wT (v := ?_) 8 rfl (by rfl) ?_ hHeld ?_
   rotate_left
   ·intro w hSw
    try dsimp only at hSw
    go_simp
    try with_reducible rfl
   try simp only [Act.put, lj]
   refine wR 9 rfl (fun KK hKK => ?_)
   go_simp
   refine (Bj _ Cdu5).out.mono ?_
   rintro e u5 ⟨pu5, qu5, rfl, hu5, hzu5, hyu5⟩
   refine hKK.out _ _ ?_ (fun hHeld => ?_)
   ·exact HSK.out _ hzu5
   clear hKK KK
   try simp only [Act.put, lj]
   refine wT (v := ?_) 10 rfl (by rfl) ?_ hHeld ?_
   rotate_left
   ·intro w hSw
    try dsimp only at hSw
    go_simp
    try with_reducible rfl
   try simp only [Act.put, lj]
   refine wT (v := ?_) 11 rfl (by rfl) ?_ hHeld ?_
   rotate_left
   ·intro w hSw
    try dsimp only at hSw
    go_simp
    try with_reducible rfl
   try simp only [Act.put, lj]
   refine wT (v := ?_) 12 rfl (by rfl) ?_ hHeld ?_
   rotate_left
   ·intro w hSw
    try dsimp only at hSw
    go_simp
    try with_reducible rfl
   try simp only [Act.put, lj]
   refine wT (v := ?_) 13 rfl (by rfl) ?_ hHeld ?_
   rotate_left
   ·intro w hSw
    try dsimp only at hSw
    go_simp
    try with_reducible rfl
   try simp only [Act.put, lj]
   refine wT (v := ?_) 14 rfl (by rfl) ?_ hHeld ?_
   rotate_left
   ·intro w hSw
    try dsimp only at hSw
    go_simp
    try with_reducible rfl
   try simp only [Act.put, lj]
   refine wpAnyH_done (by kernel_rfl) ?_ _
   go_simp
   clear hHeld
   have HPA : Hid (PairsAt u5 pu4 (wl j)) := hu4.out.chg (chgF ((Chg.refl (fun _ => False) u4).drew) hyu5.out)
   have nbj : (okj != okj) = false := by cases okj <;> rfl
   go_wp2_with fail
   refine (Sj _ hzu5 _ _ _ _ HPA hu5).out.mono ?_
   rintro e u6 ⟨rfl, hzu6⟩
   clear hu4 hu5 hyu4 hyu5 HPA
   have HU6 : Hid (Chg (fun _ => False) w1 u6) := hzu6
   clear hzu6
   go_wp2_with fail
   go_roundw
   case rel => exact ⟨i + 1, by omega, by first | rfl | go_num, HU6⟩
   case measure => simp [intOf]; omega
  ·obtain rfl : i = n := by omega
   have t1 : ¬ (i : Int) < (i : Int) := by omega
   have d0 := (HSW.out wr HKR.out).1
   have HA0 := HA.out wr (chgF HC1.out HKR.out) 0 (by omega)
   rw [HLN.out.2.2.2.2] at HA0
   have HAZ := keepH HA0
   clear HA0
   go_wp2_with fail
   refine HAZ.out.mono ?_
   rintro e y1 ⟨⟨p, c, rfl, hp⟩, hy1⟩
   have HF : Hid (Chg (fun _ => False) W y1) := chgF (chgF HC1.out HKR.out) hy1
   clear hp hy1
   go_wp2_with fail
   go_ret
   exact ⟨by simp, HF.out⟩
end Go.Proofs.YtahgaghokpicgaaGreat
