/- The document's model: Content, Do of a kind that is none. -/
import Derived.Test.YtahgaghokpicgaaGreatW12D6q
import Derived.Test.YtahgaghokpicgaaGreatW5D6a
namespace Go.Proofs.YtahgaghokpicgaaGreat
open Go.RowKit Go.Maps
set_option linter.unusedVariables false
set_option maxHeartbeats 16000000
set_option linter.unusedSimpArgs false
set_option maxRecDepth 100000 in
theorem r_content6 {W : World} {m : Nat} {mu : Int} {mv hv : Value} {hs : List (Nat × Value)} (H : RMod W m mu mv hv hs) {g : Nat → Option Nat} {l : List (Nat × Nat)} (hg : RL W mv g l) :
    Calls Tryz.prog 36 #[.pointer (some ⟨m, 0, none⟩)] W fun e W' => e = .returned mv ∧ Chg (fun _ => False) W W' := by
 obtain ⟨pm, nm, rfl, -, -⟩ := hg.row.slice
 have m1 := H.c1
 have HH := keepH H
 clear H hg
 go_enter Tryz.func36, Tryz.ntmps36
 go_wp2_with fail
 exact bodyPost_ret (v := .slice pm l.length nm) (by simp [results, Tryz.results36, go_sem]) rfl ⟨rfl, Chg.refl _ _⟩
set_option maxRecDepth 100000 in
theorem r_new6 (W : World) {mu : Int} (h1 : 1 ≤ mu) (h2 : mu ≤ 1024) :
    Calls Tryz.prog 25 #[.int .i64 mu] W fun e W' => e = .returned (.tuple #[.pointer (some ⟨W.heap.size, 0, none⟩), .int .i64 0]) ∧ RMod W' W.heap.size mu (.slice none 0 0) (.slice none 0 0) [] ∧ Chg (fun _ => False) W W' := by
 have q1 : decide (mu < 1) = false := by simp; omega
 have q2 : decide (mu > 1024) = false := by simp; omega
 have q3 : decide (1024 < mu) = false := by simp; omega
 have q4 : ¬ mu < 1 := by omega
 have q5 : ¬ 1024 < mu := by omega
 go_enter Tryz.func25, Tryz.ntmps25
 go_wp2_with fail
 exact bodyPost_ret (v := .tuple #[.pointer (some ⟨W.heap.size, 0, none⟩), .int .i64 0]) (by simp [results, Tryz.results25, go_sem]) rfl ⟨rfl, ⟨heap_alloc_new _ _, HRow.nil _ _⟩, (Chg.refl _ _).alloc _⟩
abbrev Held6 := Nat × Value × (Nat → Option Nat) × List (Nat × Nat)
structure RM6 (A : Nat → Prop) (W : World) (m : Nat) (mu : Int) (g : Nat → Option Nat) (l : List (Nat × Nat)) (H : List (Nat × (Nat → Option Nat) × List (Nat × Nat))) : Prop where
 ex : ∃ (mv hv : Value) (Z : List Held6), RMod W m mu mv hv (Z.map (fun z => (z.1, z.2.1))) ∧ RL W mv g l ∧ Z.map (fun z => (z.1, z.2.2)) = H ∧ (∀ z ∈ Z, RL W z.2.1 z.2.2.1 z.2.2.2) ∧ (∀ b, mv.ownBlock = some b → ¬ A b) ∧ ∀ z ∈ Z, ∀ b, z.2.1.ownBlock = some b → ¬ A b
theorem RL.nil (W : World) : RL W (.slice none 0 0) (fun _ => none) [] := ⟨⟨⟨rfl, .inl ⟨rfl, rfl⟩⟩, fun x h => by simp at h⟩, ⟨List.Pairwise.nil, fun k v => by simp⟩⟩
theorem RMod.rl {W : World} {m : Nat} {mu : Int} {mv hv : Value} {hs : List (Nat × Value)} (h : RMod W m mu mv hv hs) {v : Value} {f : Nat → Option Nat} {l : List (Nat × Nat)} (hr : RL W v f l) : ∀ b, v.ownBlock = some b → b ≠ m := by
 intro b hb e
 subst e
 rcases hr.row.1.2 with ⟨e, _⟩ | ⟨g, cap, cur, e, _, hg, _⟩
 ·rw [e] at hb; cases hb
 ·rw [e] at hb
  injection hb with hb
  subst hb
  rw [h.at_] at hg
  injection hg with hg
  injection hg with _ hg
  exact absurd hg (by decide)
theorem RM6.quiet {A : Nat → Prop} {W W' : World} {m : Nat} {mu : Int} {g : Nat → Option Nat} {l : List (Nat × Nat)} {H : List (Nat × (Nat → Option Nat) × List (Nat × Nat))} (h : RM6 A W m mu g l H) (c : Chg (fun _ => False) W W') : RM6 A W' m mu g l H := by
 obtain ⟨mv, hv, Z, h1, h2, h3, h4, h5⟩ := h.ex
 exact ⟨mv, hv, Z, h1.quiet c, h2.quiet c, h3, fun z hz => (h4 z hz).quiet c, h5⟩
theorem RMod.held {W W' : World} {m : Nat} {mu : Int} {mv hv : Value} {hs : List (Nat × Value)} (h : RMod W m mu mv hv hs) (c : Chg (fun k => k = m) W W') {Z : List Held6} (h4 : ∀ z ∈ Z, RL W z.2.1 z.2.2.1 z.2.2.2) : ∀ z ∈ Z, RL W' z.2.1 z.2.2.1 z.2.2.2 :=
 fun z hz => (h4 z hz).chg c (fun b hb e => h.rl (h4 z hz) b hb e)
theorem RM6.map {A : Nat → Prop} {W W' : World} {m : Nat} {mu : Int} {mv hv : Value} {Z : List Held6} (h1 : RMod W m mu mv hv (Z.map (fun z => (z.1, z.2.1)))) (h4 : ∀ z ∈ Z, RL W z.2.1 z.2.2.1 z.2.2.2)
    {v : Value} {g : Nat → Option Nat} {l : List (Nat × Nat)} (hm : RMod W' m mu v hv (Z.map (fun z => (z.1, z.2.1)))) (hr : RL W' v g l) (hA : ∀ b, v.ownBlock = some b → ¬ A b) (h5 : ∀ z ∈ Z, ∀ b, z.2.1.ownBlock = some b → ¬ A b) (c : Chg (fun k => k = m) W W') : RM6 A W' m mu g l (Z.map (fun z => (z.1, z.2.2))) :=
 ⟨v, hv, Z, hm, hr, rfl, h1.held c h4, hA, h5⟩
def holdB {β : Type} (H : List (Nat × β)) (h : Nat) (x : β) : List (Nat × β) := H.takeWhile (fun y => decide (y.1 < h)) ++ (h, x) :: H.dropWhile (fun y => decide (y.1 < h))
theorem holdB_L (hs : List (Nat × Value)) (h : Nat) (v : Value) : holdL hs h v = holdB hs h v := rfl
theorem holdB_map {β γ : Type} (q : β → γ) (Z : List (Nat × β)) (h : Nat) (x : β) : (holdB Z h x).map (fun z => (z.1, q z.2)) = holdB (Z.map (fun z => (z.1, q z.2))) h (q x) := by
 simp only [holdB, List.map_append, List.map_cons, List.takeWhile_map, List.dropWhile_map]
 rfl
theorem holdB_mem {β : Type} {Z : List (Nat × β)} {h : Nat} {x : β} {z : Nat × β} (hz : z ∈ holdB Z h x) : z = (h, x) ∨ z ∈ Z := by
 rcases List.mem_append.1 hz with hz | hz
 ·exact .inr ((List.takeWhile_sublist _).mem hz)
 ·rcases List.mem_cons.1 hz with hz | hz
  ·exact .inl hz
  ·exact .inr ((List.dropWhile_sublist _).mem hz)
theorem RM6.hold {A : Nat → Prop} {W W' : World} {m : Nat} {mu : Int} {mv hv v : Value} {Z : List Held6} {g : Nat → Option Nat} {l : List (Nat × Nat)} (h1 : RMod W m mu mv hv (Z.map (fun z => (z.1, z.2.1)))) (h2 : RL W mv g l) (h4 : ∀ z ∈ Z, RL W z.2.1 z.2.2.1 z.2.2.2) {h : Nat}
    (hm : RMod W' m mu mv v (holdL (Z.map (fun z => (z.1, z.2.1))) h mv)) (h5 : (∀ b, mv.ownBlock = some b → ¬ A b) ∧ ∀ z ∈ Z, ∀ b, z.2.1.ownBlock = some b → ¬ A b) (c : Chg (fun k => k = m) W W') : RM6 A W' m mu g l (holdB (Z.map (fun z => (z.1, z.2.2))) h (g, l)) := by
 refine ⟨mv, v, holdB Z h (mv, g, l), ?_, h2.chg c (fun b hb e => h1.rl h2 b hb e), ?_, fun z hz => ?_, h5.1, fun z hz => ?_⟩
 ·have e := holdB_map (fun y : Value × (Nat → Option Nat) × List (Nat × Nat) => y.1) Z h (mv, g, l)
  rw [e, ← holdB_L]
  exact hm
 ·exact holdB_map (fun y : Value × (Nat → Option Nat) × List (Nat × Nat) => y.2) Z h (mv, g, l)
 ·rcases holdB_mem hz with rfl | hz
  ·exact h2.chg c (fun b hb e => h1.rl h2 b hb e)
  ·exact h1.held c h4 z hz
 ·rcases holdB_mem hz with rfl | hz
  ·exact h5.1
  ·exact h5.2 z hz
theorem RM6.drop {A : Nat → Prop} {W W' : World} {m : Nat} {mu : Int} {mv hv v : Value} {Z : List Held6} {g : Nat → Option Nat} {l : List (Nat × Nat)} (h1 : RMod W m mu mv hv (Z.map (fun z => (z.1, z.2.1)))) (h2 : RL W mv g l) (h4 : ∀ z ∈ Z, RL W z.2.1 z.2.2.1 z.2.2.2) {i : Nat}
    (hm : RMod W' m mu mv v ((Z.map (fun z => (z.1, z.2.1))).take i ++ (Z.map (fun z => (z.1, z.2.1))).drop (i + 1))) (h5 : (∀ b, mv.ownBlock = some b → ¬ A b) ∧ ∀ z ∈ Z, ∀ b, z.2.1.ownBlock = some b → ¬ A b) (c : Chg (fun k => k = m) W W') : RM6 A W' m mu g l (((Z.map (fun z => (z.1, z.2.2))).take i) ++ ((Z.map (fun z => (z.1, z.2.2))).drop (i + 1))) := by
 refine ⟨mv, v, Z.take i ++ Z.drop (i + 1), ?_, h2.chg c (fun b hb e => h1.rl h2 b hb e), ?_, fun z hz => ?_, h5.1, fun z hz => h5.2 z ?_⟩
 ·rw [List.map_append, List.map_take, List.map_drop]; exact hm
 ·rw [List.map_append, List.map_take, List.map_drop]
 ·refine h1.held c h4 z ?_
  rcases List.mem_append.1 hz with hz | hz
  ·exact List.mem_of_mem_take hz
  ·exact List.mem_of_mem_drop hz
 ·rcases List.mem_append.1 hz with hz | hz
  ·exact List.mem_of_mem_take hz
  ·exact List.mem_of_mem_drop hz
theorem place_cases (hs : List (Nat × Value)) (h : Nat) : placeI hs h = -1 ∨ ∃ i : Nat, placeI hs h = (i : Int) ∧ ∃ hi : i < hs.length, hs[i].1 = h := by
 unfold placeI
 cases e : placeL hs h with
 | none => exact .inl rfl
 | some i =>
  refine .inr ⟨i, rfl, ?_⟩
  unfold placeL at e
  obtain ⟨h1, h2, -⟩ := List.findIdx?_eq_some_iff_getElem.1 e
  exact ⟨h1, by simpa using h2⟩
abbrev HeldL := List (Nat × (Nat → Option Nat) × List (Nat × Nat))
theorem withL_le (l : List (Nat × Nat)) (k x : Nat) : (withL l k x).length ≤ l.length + 1 := by
 unfold withL
 have h1 := congrArg List.length (List.takeWhile_append_dropWhile (p := fun y : Nat × Nat => decide (y.1 < k)) (l := l))
 have h2 := (List.dropWhile_sublist (fun y : Nat × Nat => y.1 == k) (l := l.dropWhile (fun y => decide (y.1 < k)))).length_le
 simp only [List.length_append, List.length_cons] at h1 ⊢
 omega
theorem holdB_len {β : Type} (H : List (Nat × β)) (h : Nat) (x : β) : (holdB H h x).length = H.length + 1 := by
 unfold holdB
 have h1 := congrArg List.length (List.takeWhile_append_dropWhile (p := fun y : Nat × β => decide (y.1 < h)) (l := H))
 simp only [List.length_append, List.length_cons] at h1 ⊢
 omega
set_option maxRecDepth 100000 in
theorem d_none {W : World} {m : Nat} {mu : Int} {mv hv : Value} {hs : List (Nat × Value)} (H : RMod W m mu mv hv hs) {g : Nat → Option Nat} {l : List (Nat × Nat)} (hg : RL W mv g l) (hgl : l.length ≤ 4398046510000) {k : Nat} (hk : k < 18446744073709551616) {kd : Int} (n1 : ¬ kd = 1) (n2 : ¬ kd = 2) (n3 : ¬ kd = 3) (n4 : ¬ kd = 4) (n5 : ¬ kd = 5) (n6 : ¬ kd = 6) (n7 : ¬ kd = 7) (n8 : ¬ kd = 8) (n9 : ¬ kd = 9) (n10 : ¬ kd = 10) {hd : Int} {hk9 : Int} {v od r6 r7 lo hi : Int} {r5 : Bool} {kp : Option Addr} {kn kc : Nat} :
    Calls Tryz.prog 15 #[.pointer (some ⟨m, 0, none⟩), .agg #[.int .u8 kd, .int .u64 k, .int .u64 v, .int .u64 od, .int .u64 hk9, .bool r5, .int .i64 r6, .int .i64 r7, .slice kp kn kc, .int .u64 lo, .int .u64 hi], .int .u64 hd] W (fun e W' => e = .returned (.agg #[.int .i64 160, .bool false, .int .u64 0, .bool false, .int .u64 0, .slice none 0 0, .int .u64 0]) ∧ Chg (fun _ => False) W W') := by
 have m1 : decide (kd = 1) = false := by simp; exact n1
 have m2 : decide (kd = 2) = false := by simp; exact n2
 have m3 : decide (kd = 3) = false := by simp; exact n3
 have m4 : decide (kd = 4) = false := by simp; exact n4
 have m5 : decide (kd = 5) = false := by simp; exact n5
 have m6 : decide (kd = 6) = false := by simp; exact n6
 have m7 : decide (kd = 7) = false := by simp; exact n7
 have m8 : decide (kd = 8) = false := by simp; exact n8
 have m9 : decide (kd = 9) = false := by simp; exact n9
 have m10 : decide (kd = 10) = false := by simp; exact n10
 have hlm := lt_of H.at_
 have HFD := keepH (fun w (hc : Chg (fun _ => False) W w) => r_findL (hg.quiet hc) hgl hk)
 obtain ⟨fv, hfv⟩ : ∃ fv, fv = (g k).getD 0 := ⟨_, rfl⟩
 obtain ⟨fb, hfb⟩ : ∃ fb, fb = (g k).isSome := ⟨_, rfl⟩
 rw [← hfv, ← hfb] at HFD
 have HFV := keepH hfv
 have HFB := keepH hfb
 have hQ1 : QX W m #[.int .i64 mu, mv, hv] W.heap.size (W.heap.size + 1) #[.int .u8 kd, .int .u64 k, .int .u64 v, .int .u64 od, .int .u64 hk9, .bool r5, .int .i64 r6, .int .i64 r7, .slice kp kn kc, .int .u64 lo, .int .u64 hi] #[.int .i64 0, .bool false, .int .u64 0, .bool false, .int .u64 0, .slice none 0 0, .int .u64 0] ((W.alloc (.cells #[.int .u8 kd, .int .u64 k, .int .u64 v, .int .u64 od, .int .u64 hk9, .bool r5, .int .i64 r6, .int .i64 r7, .slice kp kn kc, .int .u64 lo, .int .u64 hi] 35)).alloc (.cells #[.int .i64 0, .bool false, .int .u64 0, .bool false, .int .u64 0, .slice none 0 0, .int .u64 0] 39)) := QX.two W H.at_ _ _
 obtain ⟨w1, hw1⟩ : ∃ w1, w1 = (W.alloc (.cells #[.int .u8 kd, .int .u64 k, .int .u64 v, .int .u64 od, .int .u64 hk9, .bool r5, .int .i64 r6, .int .i64 r7, .slice kp kn kc, .int .u64 lo, .int .u64 hi] 35)).alloc (.cells #[.int .i64 0, .bool false, .int .u64 0, .bool false, .int .u64 0, .slice none 0 0, .int .u64 0] 39) := ⟨_, rfl⟩
 obtain ⟨P, hP⟩ : ∃ P, P = W.heap.size := ⟨_, rfl⟩
 obtain ⟨R, hR⟩ : ∃ R, R = W.heap.size + 1 := ⟨_, rfl⟩
 rw [← hw1, ← hR, ← hP] at hQ1
 have HQ1 := keepH hQ1
 have HW1 := keepH hw1
 have HP := keepH hP
 have HR := keepH hR
 have HH := keepH H
 have HG := keepH hg
 have HGL := keepH hgl
 have HK := keepH hk
 have hlP : W.heap.size ≤ P := by omega
 clear H hg hgl hk hfv hfb hQ1 hw1 hP hR
 go_enter Tryz.func15, Tryz.ntmps15
 go_upto_region 1 with fail
 rw [show (W.alloc (.cells #[.int .u8 kd, .int .u64 k, .int .u64 v, .int .u64 od, .int .u64 hk9, .bool r5, .int .i64 r6, .int .i64 r7, .slice kp kn kc, .int .u64 lo, .int .u64 hi] 35)).alloc (.cells #[.int .i64 0, .bool false, .int .u64 0, .bool false, .int .u64 0, .slice none 0 0, .int .u64 0] 39) = w1 from HW1.out.symm, ← HR.out, ← HP.out]
 clear HW1 HP HR
 go_upto_region 3 with fail
 have HS2 : Hid ((fun w => w.heap[m]? = some (.cells #[.int .i64 mu, mv, hv] 105 (0, 0)) ∧ w.heap[P]? = some (.cells #[.int .u8 kd, .int .u64 k, .int .u64 v, .int .u64 od, .int .u64 hk9, .bool r5, .int .i64 r6, .int .i64 r7, .slice kp kn kc, .int .u64 lo, .int .u64 hi] 35 (0, 0))) w1.drew) := keepH ⟨HQ1.out.md, HQ1.out.ox⟩
 refine wp_region_held_drew (S := fun w => w.heap[m]? = some (.cells #[.int .i64 mu, mv, hv] 105 (0, 0)) ∧ w.heap[P]? = some (.cells #[.int .u8 kd, .int .u64 k, .int .u64 v, .int .u64 od, .int .u64 hk9, .bool r5, .int .i64 r6, .int .i64 r7, .slice kp kn kc, .int .u64 lo, .int .u64 hi] 35 (0, 0))) (by kernel_rfl) (HS2.out) ?_
 intro hHeld
 refine wT (v := ?_) 0 rfl (by rfl) ?_ hHeld ?_
 rotate_left
 ·intro w hSw
  try dsimp only at hSw
  go_simp
  try with_reducible rfl
 try simp only [Act.put, lj]
 refine wT (v := ?_) 1 rfl (by rfl) ?_ hHeld ?_
 rotate_left
 ·intro w hSw
  try dsimp only at hSw
  go_simp
  try with_reducible rfl
 try simp only [Act.put, lj]
 refine wT (v := ?_) 2 rfl (by rfl) ?_ hHeld ?_
 rotate_left
 ·intro w hSw
  try dsimp only at hSw
  go_simp
  try with_reducible rfl
 try simp only [Act.put, lj]
 refine wT (v := ?_) 3 rfl (by rfl) ?_ hHeld ?_
 rotate_left
 ·intro w hSw
  try dsimp only at hSw
  have y1 := cell_of hSw.1 1
  go_simp
  try with_reducible rfl
 try simp only [Act.put, lj]
 refine wT (v := ?_) 4 rfl (by rfl) ?_ hHeld ?_
 rotate_left
 ·intro w hSw
  try dsimp only at hSw
  go_simp
  try with_reducible rfl
 try simp only [Act.put, lj]
 refine wT (v := ?_) 5 rfl (by rfl) ?_ hHeld ?_
 rotate_left
 ·intro w hSw
  try dsimp only at hSw
  have z1 := cell_of hSw.2 1
  go_simp
  try with_reducible rfl
 try simp only [Act.put, lj]
 refine wR 6 rfl (fun KK hKK => ?_)
 go_simp
 refine (HFD.out _ (chgF HQ1.out.ch (chg_dn (Chg.refl _ _) 1))).mono ?_
 rintro e w3 ⟨rfl, hw3⟩
 have HQ3 : Hid (QX W m #[.int .i64 mu, mv, hv] P R #[.int .u8 kd, .int .u64 k, .int .u64 v, .int .u64 od, .int .u64 hk9, .bool r5, .int .i64 r6, .int .i64 r7, .slice kp kn kc, .int .u64 lo, .int .u64 hi] #[.int .i64 0, .bool false, .int .u64 0, .bool false, .int .u64 0, .slice none 0 0, .int .u64 0] w3) := keepH (by rw [hw3]; exact HQ1.out.on (chg_dn (Chg.refl _ _) 1))
 clear hw3
 have hcc := And.intro HQ3.out.md HQ3.out.ox
 refine hKK.out _ _ ?_ (fun hHeld => ?_)
 ·exact hcc
 clear hKK KK
 try simp only [Act.put, lj]
 refine wT (v := ?_) 7 rfl (by rfl) ?_ hHeld ?_
 rotate_left
 ·intro w hSw
  try dsimp only at hSw
  go_simp
  try with_reducible rfl
 try simp only [Act.put, lj]
 refine wT (v := ?_) 8 rfl (by rfl) ?_ hHeld ?_
 rotate_left
 ·intro w hSw
  try dsimp only at hSw
  go_simp
  try with_reducible rfl
 try simp only [Act.put, lj]
 refine wT (v := ?_) 9 rfl (by rfl) ?_ hHeld ?_
 rotate_left
 ·intro w hSw
  try dsimp only at hSw
  go_simp
  try with_reducible rfl
 try simp only [Act.put, lj]
 refine wT (v := ?_) 10 rfl (by rfl) ?_ hHeld ?_
 rotate_left
 ·intro w hSw
  try dsimp only at hSw
  go_simp
  try with_reducible rfl
 try simp only [Act.put, lj]
 refine wT (v := ?_) 11 rfl (by rfl) ?_ hHeld ?_
 rotate_left
 ·intro w hSw
  try dsimp only at hSw
  go_simp
  try with_reducible rfl
 try simp only [Act.put, lj]
 refine wpAnyH_done (by kernel_rfl) ?_ _
 go_simp
 clear hHeld HFD HQ1 HS2
 go_upto_region 5 with fail
 obtain ⟨w4, hw4⟩ : ∃ w4, w4 = w3.alloc (.cells #[.int .i64 0, .bool fb, .int .u64 fv, .bool false, .int .u64 0, .slice none 0 0, .int .u64 0] 39) := ⟨_, rfl⟩
 obtain ⟨A, hA⟩ : ∃ A, A = w3.heap.size := ⟨_, rfl⟩
 have HQ4 : Hid (QX W m #[.int .i64 mu, mv, hv] P R #[.int .u8 kd, .int .u64 k, .int .u64 v, .int .u64 od, .int .u64 hk9, .bool r5, .int .i64 r6, .int .i64 r7, .slice kp kn kc, .int .u64 lo, .int .u64 hi] #[.int .i64 0, .bool false, .int .u64 0, .bool false, .int .u64 0, .slice none 0 0, .int .u64 0] w4) := keepH (by rw [hw4]; exact HQ3.out.on ((Chg.refl _ _).alloc _))
 have HA : Hid (w4.heap[A]? = some (.cells #[.int .i64 0, .bool fb, .int .u64 fv, .bool false, .int .u64 0, .slice none 0 0, .int .u64 0] 39 (0, 0))) := keepH (by rw [hw4, hA]; exact heap_alloc_new _ _)
 have hAR : A ≠ R := by have := lt_of HQ3.out.ax; omega
 have hAl : W.heap.size ≤ A := by have := HQ3.out.ch.size; omega
 rw [← hw4, ← hA]
 clear hcc HQ3 hw4 hA
 have p0 : w4.cell? ⟨P, 0, none⟩ = _ := cell_of HQ4.out.ox 0
 go_wp2_with (refine wpList_store_mid rfl 39 (.tmp 6) (.tmp 121) rfl R 0 #[.int .i64 160, .bool false, .int .u64 0, .bool false, .int .u64 0, .slice none 0 0, .int .u64 0] rfl rfl HQ4.out.there (by kernel_rfl) (by simp [Value.oneCell']) ?_; have HQ9 := keepH (HQ4.out.seven (.int .i64 160) (.bool false) (.int .u64 0) (.bool false) (.int .u64 0) (.slice none 0 0) (.int .u64 0)))
 have e0 := cell_of HQ9.out.ax 0
 have e1 := cell_of HQ9.out.ax 1
 have e2 := cell_of HQ9.out.ax 2
 have e3 := cell_of HQ9.out.ax 3
 have e4 := cell_of HQ9.out.ax 4
 have e5 := cell_of HQ9.out.ax 5
 have e6 := cell_of HQ9.out.ax 6
 simp at e0 e1 e2 e3 e4 e5 e6
 go_wp2_with fail
 refine bodyPost_ret (v := .agg #[.int .i64 160, .bool false, .int .u64 0, .bool false, .int .u64 0, .slice none 0 0, .int .u64 0]) (by simp [results, Tryz.results15, go_sem, e0, e1, e2, e3, e4, e5, e6]) rfl ?_
 exact ⟨rfl, HQ9.out.ch⟩
open Classical in
noncomputable def theL (f : Nat → Option Nat) (lo hi : Nat) : List (Nat × Nat) := if h : ∃ l, Lists f lo hi l then h.choose else []
theorem theL_eq {f : Nat → Option Nat} {lo hi : Nat} {l : List (Nat × Nat)} (h : Lists f lo hi l) : theL f lo hi = l := by
 have e : ∃ l, Lists f lo hi l := ⟨l, h⟩
 unfold theL
 rw [dif_pos e]
 exact e.choose_spec.unique h
structure OpP where
 kd : Int
 k : Nat
 v : Nat
 od : Nat
 hk : Nat
 ks : List Nat
 lo : Nat
 hi : Nat
structure OpP.Ok (o : OpP) : Prop where
 k : o.k < 18446744073709551616
 v : o.v < 18446744073709551616
 od : o.od < 18446744073709551616
 hk : o.hk < 18446744073709551616
 lo : o.lo < 18446744073709551616
 hi : o.hi < 18446744073709551616
def errA (e : Int) : Ans := ⟨e, false, 0, false, 0, [], 0⟩
noncomputable def tellP (mu : Nat) (f : Nat → Option Nat) (pc : Nat → Option (Nat → Option Nat)) (o : OpP) (th : Nat) : Ans :=
 if o.kd = 4 then ⟨0, (f o.k).isSome, (f o.k).getD 0, decide (f o.k = some o.od), 0, [], 0⟩
 else if o.kd = 1 ∨ o.kd = 2 ∨ o.kd = 3 then ⟨0, (f o.k).isSome, (f o.k).getD 0, false, 0, [], 0⟩
 else if o.kd = 5 then (if (pc th).isSome then errA 32 else ⟨0, false, 0, false, th, [], 0⟩)
 else if o.kd = 6 then (if (pc o.hk).isSome then errA 0 else errA 33)
 else if o.kd = 7 ∧ mu < o.ks.length then errA 6
 else if o.kd = 7 ∨ o.kd = 8 ∨ o.kd = 9 then (match pc o.hk with
  | none => errA 33
  | some c => if o.kd = 7 then ⟨0, false, 0, false, 0, pairsOf c o.ks, 0⟩ else if o.kd = 8 then ⟨0, false, 0, false, 0, theL c o.lo o.hi, 0⟩ else ⟨0, false, 0, false, 0, [], (theL c o.lo o.hi).length⟩)
 else if o.kd = 10 then errA 0
 else errA 160
def ansC (A : Ans) (p : Option Addr) (c : Nat) : Array Value := #[.int .i64 A.e, .bool A.f, .int .u64 A.x, .bool A.d, .int .u64 A.h, .slice p A.l.length c, .int .u64 A.n]
def opC (o : OpP) (r5 : Bool) (r6 r7 : Int) (kp : Option Addr) (kc : Nat) : Array Value := #[.int .u8 o.kd, .int .u64 o.k, .int .u64 o.v, .int .u64 o.od, .int .u64 o.hk, .bool r5, .int .i64 r6, .int .i64 r7, .slice kp o.ks.length kc, .int .u64 o.lo, .int .u64 o.hi]
def Told (W0 W' : World) (A : Ans) (e : Ending) : Prop := ∃ p c, e = .returned (.agg (ansC A p c)) ∧ OPairs W' p c A.l ∧ (∀ bk off, p = some ⟨bk, off, none⟩ → W0.heap.size ≤ bk) ∧ A.l.length ≤ 8796093022000
def pcs (h : Nat → Option Nat) (g : Nat → Nat → Option Nat) : Nat → Option (Nat → Option Nat) := fun k => (h k).map g
theorem told_plain {W0 W' : World} {A : Ans} (hl : A.l = []) {e : Ending} (he : e = .returned (.agg (ansC A none 0))) : Told W0 W' A e := ⟨none, 0, he, OPairs.of_nil hl, fun bk off e => (by cases e), by rw [hl]; simp⟩
def doF (o : OpP) (A : Ans) (f : Nat → Option Nat) : Nat → Option Nat :=
 if A.e = 0 ∧ (o.kd = 2 ∨ o.kd = 4 ∧ A.d = true) then updO f o.k (some o.v) else if A.e = 0 ∧ o.kd = 3 then updO f o.k none else f
def doH (o : OpP) (A : Ans) (cl : Nat) (h : Nat → Option Nat) : Nat → Option Nat :=
 if A.e = 0 ∧ o.kd = 5 ∧ A.h ≠ 0 then updO h A.h (some cl) else if A.e = 0 ∧ o.kd = 6 then updO h o.hk none else h
def hP (H : HeldL) : Nat → Option (Nat → Option Nat) := fun k => (H.find? (fun z => z.1 == k)).map (fun z => z.2.1)
abbrev Rising (H : HeldL) : Prop := H.Pairwise (fun a b => a.1 < b.1)
theorem Rising.find {H : HeldL} (h : Rising H) {z : Nat × (Nat → Option Nat) × List (Nat × Nat)} (hz : z ∈ H) : H.find? (fun y => y.1 == z.1) = some z := by
 induction H with
 | nil => cases hz
 | cons x r ih =>
  obtain ⟨h1, h2⟩ := List.pairwise_cons.1 h
  rcases List.mem_cons.1 hz with rfl | hz
  ·simp
  ·have := h1 z hz
   rw [List.find?_cons_of_neg (by simp; omega)]
   exact ih h2 hz
theorem hP_none {H : HeldL} {k : Nat} (h : ∀ z ∈ H, z.1 ≠ k) : hP H k = none := by
 unfold hP
 rw [List.find?_eq_none.2 (fun z hz => by simpa using h z hz)]
 rfl
theorem hP_some {H : HeldL} (h : Rising H) {z : Nat × (Nat → Option Nat) × List (Nat × Nat)} (hz : z ∈ H) : hP H z.1 = some z.2.1 := by
 unfold hP
 rw [h.find hz]
 rfl
theorem hP_isSome {H : HeldL} (h : Rising H) (k : Nat) : (hP H k).isSome = true ↔ ∃ z ∈ H, z.1 = k := by
 constructor
 ·intro e
  by_cases q : ∃ z ∈ H, z.1 = k
  ·exact q
  ·rw [hP_none (fun z hz e => q ⟨z, hz, e⟩)] at e
   cases e
 ·rintro ⟨z, hz, rfl⟩
  rw [hP_some h hz]
  rfl
theorem placeI_neg {Z : List Held6} {k : Nat} (h : placeI (Z.map (fun z => (z.1, z.2.1))) k = -1) : ∀ z ∈ Z.map (fun z => (z.1, z.2.2)), z.1 ≠ k := by
 intro z hz e
 obtain ⟨y, hy, rfl⟩ := List.mem_map.1 hz
 unfold placeI placeL at h
 cases q : (Z.map (fun z => (z.1, z.2.1))).findIdx? (fun x => x.1 == k) with
 | none =>
  have := List.findIdx?_eq_none_iff.1 q (y.1, y.2.1) (List.mem_map.2 ⟨y, hy, rfl⟩)
  simp at this
  exact this e
 | some i =>
  rw [q] at h
  simp only at h
  omega
theorem holdB_rising {H : HeldL} (h : Rising H) {k : Nat} (hn : ∀ z ∈ H, z.1 ≠ k) (x : (Nat → Option Nat) × List (Nat × Nat)) : Rising (holdB H k x) := by
 unfold holdB
 refine List.pairwise_append.2 ⟨h.sublist (List.takeWhile_sublist _), List.pairwise_cons.2 ⟨fun z hz => ?_, h.sublist (List.dropWhile_sublist _)⟩, fun a ha b hb => ?_⟩
 ·have hz2 := (List.dropWhile_sublist _).mem hz
  have := hn z hz2
  by_cases e : z.1 < k
  ·exfalso
   -- all that is dropped stands at or behind the first that is not below
   have key : ∀ (L : HeldL), Rising L → ∀ z ∈ L.dropWhile (fun y => decide (y.1 < k)), k ≤ z.1 := by
    intro L
    induction L with
    | nil => intro _ z hz; cases hz
    | cons y r ih =>
     intro hL z hz
     obtain ⟨g1, g2⟩ := List.pairwise_cons.1 hL
     by_cases q : y.1 < k
     ·rw [List.dropWhile_cons_of_pos (by simpa using q)] at hz
      exact ih g2 z hz
     ·rw [List.dropWhile_cons_of_neg (by simpa using q)] at hz
      rcases List.mem_cons.1 hz with rfl | hz
      ·omega
      ·have := g1 z hz; omega
   have := key H h z hz
   omega
  ·show k < z.1
   omega
 ·have h1 : a.1 < k := by
    have := List.all_eq_true.1 (List.all_takeWhile (p := fun y : Nat × (Nat → Option Nat) × List (Nat × Nat) => decide (y.1 < k)) (l := H)) a ha
    simpa using this
  rcases List.mem_cons.1 hb with rfl | hb
  ·exact h1
  ·have key : ∀ (L : HeldL), Rising L → ∀ z ∈ L.dropWhile (fun y => decide (y.1 < k)), k ≤ z.1 := by
     intro L
     induction L with
     | nil => intro _ z hz; cases hz
     | cons y r ih =>
      intro hL z hz
      obtain ⟨g1, g2⟩ := List.pairwise_cons.1 hL
      by_cases q : y.1 < k
      ·rw [List.dropWhile_cons_of_pos (by simpa using q)] at hz
       exact ih g2 z hz
      ·rw [List.dropWhile_cons_of_neg (by simpa using q)] at hz
       rcases List.mem_cons.1 hz with rfl | hz
       ·omega
       ·have := g1 z hz; omega
   have := key H h b hb
   omega
theorem holdB_mem2 {H : HeldL} {k : Nat} {x : (Nat → Option Nat) × List (Nat × Nat)} {z : Nat × (Nat → Option Nat) × List (Nat × Nat)} : z ∈ holdB H k x ↔ z = (k, x) ∨ z ∈ H := by
 unfold holdB
 rw [List.mem_append, List.mem_cons]
 constructor
 ·rintro (h | h | h)
  ·exact .inr ((List.takeWhile_sublist _).mem h)
  ·exact .inl h
  ·exact .inr ((List.dropWhile_sublist _).mem h)
 ·rintro (h | h)
  ·exact .inr (.inl h)
  ·rw [← List.takeWhile_append_dropWhile (p := fun y => decide (y.1 < k)) (l := H)] at h
   rcases List.mem_append.1 h with h | h
   ·exact .inl h
   ·exact .inr (.inr h)
theorem hP_hold {H : HeldL} (h : Rising H) {k : Nat} (hn : ∀ z ∈ H, z.1 ≠ k) (f : Nat → Option Nat) (l : List (Nat × Nat)) : hP (holdB H k (f, l)) = fun j => if j = k then some f else hP H j := by
 have hr := holdB_rising h hn (f, l)
 funext j
 by_cases e : j = k
 ·subst e
  rw [if_pos rfl]
  exact hP_some hr (z := (j, f, l)) (holdB_mem2.2 (.inl rfl))
 ·rw [if_neg e]
  by_cases q : ∃ z ∈ H, z.1 = j
  ·obtain ⟨z, hz, rfl⟩ := q
   rw [hP_some h hz, hP_some hr (holdB_mem2.2 (.inr hz))]
  ·rw [hP_none (fun z hz e2 => q ⟨z, hz, e2⟩), hP_none (fun z hz e2 => ?_)]
   rcases holdB_mem2.1 hz with rfl | hz
   ·exact e e2.symm
   ·exact q ⟨z, hz, e2⟩
theorem drop_rising {H : HeldL} (h : Rising H) (i : Nat) : Rising (H.take i ++ H.drop (i + 1)) := by
 rw [← List.eraseIdx_eq_take_drop_succ]
 exact h.sublist (List.eraseIdx_sublist H i)
theorem hP_drop {H : HeldL} (h : Rising H) {i : Nat} (hi : i < H.length) {k : Nat} (hk : H[i].1 = k) : hP (H.take i ++ H.drop (i + 1)) = fun j => if j = k then none else hP H j := by
 have hr := drop_rising h i
 have me : ∀ z, z ∈ H ↔ z ∈ H.take i ++ H.drop (i + 1) ∨ z = H[i] := fun z => by
  have e : H = H.take i ++ H[i] :: H.drop (i + 1) := by
   rw [← List.drop_eq_getElem_cons hi, List.take_append_drop]
  constructor
  ·intro hz
   rw [e] at hz
   rcases List.mem_append.1 hz with hz | hz
   ·exact .inl (List.mem_append.2 (.inl hz))
   ·rcases List.mem_cons.1 hz with hz | hz
    ·exact .inr hz
    ·exact .inl (List.mem_append.2 (.inr hz))
  ·rintro (hz | rfl)
   ·rcases List.mem_append.1 hz with hz | hz
    ·exact List.mem_of_mem_take hz
    ·exact List.mem_of_mem_drop hz
   ·exact List.getElem_mem hi
 have no : ∀ z ∈ H.take i ++ H.drop (i + 1), z.1 ≠ k := fun z hz e => by
  have p := List.pairwise_iff_getElem.1 h
  rcases List.mem_append.1 hz with hz | hz
  ·obtain ⟨j, hj, rfl⟩ := List.getElem_of_mem hz
   simp at hj
   rw [List.getElem_take] at e
   have := p j i (by omega) hi (by omega)
   omega
  ·obtain ⟨j, hj, rfl⟩ := List.getElem_of_mem hz
   simp at hj
   rw [List.getElem_drop] at e
   have := p i (i + 1 + j) hi (by omega) (by omega)
   omega
 funext j
 by_cases e : j = k
 ·rw [if_pos e, e, hP_none no]
 ·rw [if_neg e]
  by_cases q : ∃ z ∈ H, z.1 = j
  ·obtain ⟨z, hz, rfl⟩ := q
   rw [hP_some h hz]
   refine hP_some hr (((me z).1 hz).resolve_right (fun e2 => e ?_))
   rw [e2, hk]
  ·rw [hP_none (fun z hz e2 => q ⟨z, hz, e2⟩), hP_none (fun z hz e2 => q ⟨z, (me z).2 (.inl hz), e2⟩)]
structure RB (A : Nat → Prop) (W : World) (m : Nat) (mu : Int) (f : Nat → Option Nat) (pc : Nat → Option (Nat → Option Nat)) (n : Nat) : Prop where
 ex : ∃ l H, RM6 A W m mu f l H ∧ Rising H ∧ (∀ z ∈ H, z.1 < 18446744073709551616 ∧ z.1 ≠ 0 ∧ z.2.2.length ≤ n) ∧ pc = hP H ∧ l.length ≤ n ∧ H.length ≤ n
theorem RB.quiet {A : Nat → Prop} {W W' : World} {m : Nat} {mu : Int} {f : Nat → Option Nat} {pc : Nat → Option (Nat → Option Nat)} {n : Nat} (h : RB A W m mu f pc n) (c : Chg (fun _ => False) W W') : RB A W' m mu f pc n := by
 obtain ⟨l, H, h1, h2⟩ := h.ex
 exact ⟨l, H, h1.quiet c, h2⟩
theorem RB.mono {A : Nat → Prop} {W : World} {m : Nat} {mu : Int} {f : Nat → Option Nat} {pc : Nat → Option (Nat → Option Nat)} {n n' : Nat} (h : RB A W m mu f pc n) (hn : n ≤ n') : RB A W m mu f pc n' := by
 obtain ⟨l, H, h1, h2, h3, h4, h5, h6⟩ := h.ex
 exact ⟨l, H, h1, h2, fun z hz => ⟨(h3 z hz).1, (h3 z hz).2.1, by have := (h3 z hz).2.2; omega⟩, h4, by omega, by omega⟩
theorem RB.zero {A : Nat → Prop} {W : World} {m : Nat} {mu : Int} {f : Nat → Option Nat} {pc : Nat → Option (Nat → Option Nat)} {n : Nat} (h : RB A W m mu f pc n) : pc 0 = none := by
 obtain ⟨l, H, h1, h2, h3, rfl, h5, h6⟩ := h.ex
 exact hP_none (fun z hz => (h3 z hz).2.1)
def DTold (W' : World) (T : Ans) (e : Ending) : Prop := ∃ p c, e = .returned (.agg (ansC T p c)) ∧ PairsAt W' p T.l
theorem DTold.plain {W' : World} {T : Ans} {e : Ending} (hl : T.l = []) (he : e = .returned (.agg (ansC T none 0))) : DTold W' T e := ⟨none, 0, he, by rw [hl]; exact .inl rfl⟩
theorem theL_rl {W : World} {v : Value} {g : Nat → Option Nat} {l : List (Nat × Nat)} (h : RL W v g l) (lo hi : Nat) (h2 : hi ≤ 18446744073709551615) : theL g lo hi = l.filter (fun x => decide (lo ≤ x.1) && decide (x.1 ≤ hi)) := by
 refine theL_eq ⟨(h.ls.1.sublist (List.filter_sublist (l := l))), fun k v => ?_⟩
 rw [List.mem_filter, h.ls.2 k v]
 simp only [Bool.and_eq_true, decide_eq_true_eq]
 constructor
 ·rintro ⟨⟨a, b, c⟩, d, e⟩; exact ⟨a, d, e⟩
 ·rintro ⟨a, d, e⟩; exact ⟨⟨a, Nat.zero_le _, by omega⟩, d, e⟩
noncomputable def askP (mu : Nat) (pc : Nat → Option (Nat → Option Nat)) (o : OpP) : Ans :=
 if o.kd = 7 ∧ mu < o.ks.length then errA 6
 else match pc o.hk with
  | none => errA 33
  | some c => if o.kd = 7 then ⟨0, false, 0, false, 0, pairsOf c o.ks, 0⟩ else if o.kd = 8 then ⟨0, false, 0, false, 0, theL c o.lo o.hi, 0⟩ else ⟨0, false, 0, false, 0, [], (theL c o.lo o.hi).length⟩
theorem askP_is {mu : Nat} {f : Nat → Option Nat} {pc : Nat → Option (Nat → Option Nat)} {o : OpP} {th : Nat} (h : o.kd = 7 ∨ o.kd = 8 ∨ o.kd = 9) : tellP mu f pc o th = askP mu pc o := by
 unfold tellP askP
 rw [if_neg (by omega), if_neg (by omega), if_neg (by omega), if_neg (by omega)]
 by_cases q : o.kd = 7 ∧ mu < o.ks.length
 ·rw [if_pos q, if_pos q]
 ·rw [if_neg q, if_neg q, if_pos h] <;> (cases pc o.hk <;> rfl)
def QTold (W : World) (T : Ans) (e : Ending) (W' : World) : Prop := (∃ v, e = .returned (.agg #[.int .i64 T.e, .bool T.f, .int .u64 T.x, .bool T.d, .int .u64 T.h, v, .int .u64 T.n]) ∧ PRow W' W.heap.size v T.l) ∧ Chg (fun _ => False) W W'
theorem QTold.seven {W : World} {T : Ans} {e : Ending} {W' : World} (h : QTold W T e W') : (∃ x0 x1 x2 x3 x4 x5 x6, e = .returned (.agg #[x0, x1, x2, x3, x4, x5, x6]) ∧ (#[x0, x1, x2, x3, x4, x5, x6] : Array Value).all (·.oneCell') = true) ∧ QTold W T e W' ∧ Chg (fun _ => False) W W' := by
 refine ⟨?_, h, h.2⟩
 obtain ⟨⟨v, rfl, hr⟩, -⟩ := h
 obtain ⟨p, c, rfl, -, -⟩ := hr.slice
 exact ⟨_, _, _, _, _, _, _, rfl, by simp [Value.oneCell']⟩
theorem QTold.err {W : World} {E : Int} {e : Ending} {W' : World} (h : e = .returned (.agg #[.int .i64 E, .bool false, .int .u64 0, .bool false, .int .u64 0, .slice none 0 0, .int .u64 0]) ∧ Chg (fun _ => False) W W') : QTold W (errA E) e W' :=
 ⟨⟨.slice none 0 0, h.1, PRow.nil _ _⟩, h.2⟩
theorem QTold.qr {W : World} {l : List (Nat × Nat)} {n : Nat} {e : Ending} {W' : World} (h : QrQ W 0 l n e W') : QTold W ⟨0, false, 0, false, 0, l, n⟩ e W' := by
 obtain ⟨v, rfl, hr, hc⟩ := h
 exact ⟨⟨v, rfl, hr⟩, hc⟩
theorem QTold.told {w1 w2 W' : World} {T : Ans} {e : Ending} (h : QTold w1 T e w2) (c : Chg (fun k => k < w1.heap.size) w2 W') : DTold W' T e := by
 obtain ⟨⟨v, rfl, hr⟩, -⟩ := h
 obtain ⟨p, q, rfl, hp, hb⟩ := hr.slice
 exact ⟨p, q, rfl, hp.chgF c (fun bk off e x => by have := hb bk off e; omega)⟩
theorem q_ex {W : World} {m : Nat} {mu : Nat} {mv hv : Value} {Z : List Held6} (h1 : RMod W m (mu : Int) mv hv (Z.map (fun z => (z.1, z.2.1)))) (h4 : ∀ z ∈ Z, RL W z.2.1 z.2.2.1 z.2.2.2) (hR : Rising (Z.map (fun z => (z.1, z.2.2)))) (hl : Z.length ≤ 4000000) (hb : ∀ z ∈ Z, z.2.2.2.length ≤ 4398046510000) (hmu : mu ≤ 1024)
    {o : OpP} (hkd : o.kd = 7 ∨ o.kd = 8 ∨ o.kd = 9) (ho : o.Ok) {k v od r6 r7 : Int} {r5 : Bool} {kp : Option Addr} {kc : Nat} (hks : KeysAt W kp o.ks) :
    Calls Tryz.prog 46 #[.pointer (some ⟨m, 0, none⟩), .agg #[.int .u8 o.kd, .int .u64 k, .int .u64 v, .int .u64 od, .int .u64 o.hk, .bool r5, .int .i64 r6, .int .i64 r7, .slice kp o.ks.length kc, .int .u64 o.lo, .int .u64 o.hi]] W (QTold W (askP mu (hP (Z.map (fun z => (z.1, z.2.2)))) o)) := by
 obtain ⟨kd, ok, ov, ood, hk, ks, lo, hi⟩ := o
 have hhi : hi ≤ 18446744073709551615 := by have := ho.hi; simp only at this; omega
 simp only at hkd hks ⊢
 unfold askP
 simp only
 have hl2 : (Z.map (fun z => (z.1, z.2.1))).length ≤ 4000000 := by simpa using hl
 by_cases hlen : kd = 7 ∧ mu < ks.length
 ·rw [if_pos hlen]
  obtain ⟨rfl, hq⟩ := hlen
  exact (q_long h1 (by omega)).mono (fun e W' h => QTold.err h)
 ·rw [if_neg hlen]
  rcases place_cases (Z.map (fun z => (z.1, z.2.1))) hk with hp | ⟨i, hp, hi2, hi3⟩
  ·rw [hP_none (placeI_neg hp)]
   rcases hkd with rfl | rfl | rfl
   ·exact (q_none7 h1 hl2 (by omega) hp).mono (fun e W' h => QTold.err h)
   ·exact (q_none8 h1 hl2 hp).mono (fun e W' h => QTold.err h)
   ·exact (q_none9 h1 hl2 hp).mono (fun e W' h => QTold.err h)
  ·have hi4 : i < Z.length := by simpa using hi2
   have hm := List.getElem_mem hi4
   have hr := h4 _ hm
   have hkz : Z[i].1 = hk := by simpa using hi3
   have e1 : hP (Z.map (fun z => (z.1, z.2.2))) hk = some Z[i].2.2.1 := by
    rw [← hkz]
    exact hP_some hR (z := (Z[i].1, Z[i].2.2)) (List.mem_map.2 ⟨_, hm, rfl⟩)
   rw [e1]
   simp only
   obtain ⟨p, c, e, -, -⟩ := hr.row.slice
   have hx : (Z.map (fun z => (z.1, z.2.1)))[i]? = some (Z[i].1, Value.slice p Z[i].2.2.2.length c) := by
    rw [List.getElem?_map, List.getElem?_eq_getElem hi4, ← e]
    rfl
   have hr2 : RL W (.slice p Z[i].2.2.2.length c) Z[i].2.2.1 Z[i].2.2.2 := by rw [← e]; exact hr
   rcases hkd with rfl | rfl | rfl
   ·rw [if_pos rfl]
    exact (q_held7 h1 hl2 hks (by omega) rfl (by omega) hp hx hr2 (hb _ hm)).mono (fun e W' h => QTold.qr h)
   ·rw [if_neg (by decide), if_pos rfl, theL_rl hr lo hi hhi]
    exact (q_held8 h1 hl2 hp hx hr2 (hb _ hm)).mono (fun e W' h => QTold.qr h)
   ·rw [if_neg (by decide), if_neg (by decide), theL_rl hr lo hi hhi]
    exact (q_held9 h1 hl2 hp hx hr2 (hb _ hm)).mono (fun e W' h => QTold.qr h)
def doP (o : OpP) (A : Ans) (f : Nat → Option Nat) (pc : Nat → Option (Nat → Option Nat)) : Nat → Option (Nat → Option Nat) := fun k =>
 if A.e = 0 ∧ o.kd = 5 ∧ A.h ≠ 0 then (if k = A.h then some f else pc k) else if A.e = 0 ∧ o.kd = 6 then (if k = o.hk then none else pc k) else pc k
theorem pcs_set {h : Nat → Option Nat} {g : Nat → Nat → Option Nat} {cl : Nat} (hc : ∀ k b, h k = some b → b ≠ cl) (f : Nat → Option Nat) (k : Nat) : pcs h (setG g cl f) k = pcs h g k := by
 unfold pcs
 cases hk : h k with
 | none => rfl
 | some b => simp [setG_other g f (hc k b hk)]
theorem pcs_do (o : OpP) (A : Ans) {f h : Nat → Option Nat} {g : Nat → Nat → Option Nat} {cl : Nat} (hc : ∀ k b, h k = some b → b ≠ cl) : pcs (doH o A cl h) (setG g cl f) = doP o A f (pcs h g) := by
 funext k
 unfold doH doP
 split
 ·by_cases e : k = A.h
  ·subst e
   rw [if_pos rfl]
   simp [pcs, updO_same, setG_same]
  ·rw [if_neg e, ← pcs_set hc f k]
   unfold pcs
   rw [updO_other _ _ e]
 ·split
  ·by_cases e : k = o.hk
   ·subst e
    rw [if_pos rfl]
    simp [pcs, updO_same]
   ·rw [if_neg e, ← pcs_set hc f k]
    unfold pcs
    rw [updO_other _ _ e]
  ·exact pcs_set hc f k
end Go.Proofs.YtahgaghokpicgaaGreat
