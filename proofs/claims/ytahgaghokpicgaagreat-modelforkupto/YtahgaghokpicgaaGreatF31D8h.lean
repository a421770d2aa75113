/- What is there, as a list. -/
import Derived.Test.YtahgaghokpicgaaGreatF16Nh
import Derived.Test.YtahgaghokpicgaaGreatF30D8g
namespace Go.Proofs.YtahgaghokpicgaaGreat
open Go.RowKit Go.Maps
set_option linter.unusedVariables false
set_option maxRecDepth 100000 in
theorem m_content {W : World} {m nw hd mu : Nat} {f h : Nat → Option Nat} {g : Nat → Nat → Option Nat} {n : Nat} (H : MoAt W m nw hd mu f h g n) (hn : n ≤ 8796093022000) :
    Calls Tryz.prog 18 #[.pointer (some ⟨m, 0, none⟩)] W fun e W' => (∃ p c l, e = .returned (.slice p l.length c) ∧ Lists f 0 18446744073709551615 l ∧ OPairs W' p c l ∧ (∀ bk off, p = some ⟨bk, off, none⟩ → W.heap.size ≤ bk) ∧ l.length ≤ n) ∧ Chg (fun _ => False) W W' := by
 have HB := keepH (c_all H.now hn)
 have c1 : W.cell? ⟨m, 1, none⟩ = some (.map (some nw)) := cell_of H.md 1
 clear H
 go_enter Tryz.func18, Tryz.ntmps18
 go_wp2_with fail
 refine HB.out.mono ?_
 rintro e w1 ⟨⟨v, l, rfl, h1, h2, h3⟩, h4⟩
 obtain ⟨p, c, rfl, hP, hB⟩ := h2.oslice
 have HZ : Hid (Lists f 0 18446744073709551615 l ∧ OPairs w1 p c l ∧ (∀ bk off, p = some ⟨bk, off, none⟩ → W.heap.size ≤ bk) ∧ l.length ≤ n) := ⟨h1, hP, hB, h3⟩
 have HC := keepH h4
 clear h1 h2 h3 h4 hP hB
 go_wp2_with fail
 go_ret
 exact ⟨⟨p, c, l, rfl, HZ.out⟩, HC.out⟩
set_option maxRecDepth 100000 in
theorem m_heldN {W : World} {m nw hd mu : Nat} {f h : Nat → Option Nat} {g : Nat → Nat → Option Nat} {n : Nat} (H : MoAt W m nw hd mu f h g n) {k : Nat} (hk : k < 18446744073709551616) (hh : h k = none) :
    Calls Tryz.prog 22 #[.pointer (some ⟨m, 0, none⟩), .int .u64 k] W fun e W' => e = .returned (.tuple #[.slice none 0 0, .bool false]) ∧ W' = W := by
 have HH := keepH (holds_g H hk)
 rw [hh] at HH
 clear H
 go_enter Tryz.func22, Tryz.ntmps22
 go_wp2_with fail
 refine HH.out.mono ?_
 rintro e w1 ⟨rfl, rfl⟩
 go_wp2_with fail
 go_ret2
 exact ⟨by simp, rfl⟩
set_option maxRecDepth 100000 in
theorem m_heldS {W : World} {m nw hd mu : Nat} {f h : Nat → Option Nat} {g : Nat → Nat → Option Nat} {n : Nat} (H : MoAt W m nw hd mu f h g n) (hn : n ≤ 8796093022000) {k b : Nat} (hk : k < 18446744073709551616) (hh : h k = some b) :
    Calls Tryz.prog 22 #[.pointer (some ⟨m, 0, none⟩), .int .u64 k] W fun e W' => (∃ p c l, e = .returned (.tuple #[.slice p l.length c, .bool true]) ∧ Lists (g b) 0 18446744073709551615 l ∧ OPairs W' p c l ∧ l.length ≤ n) ∧ Chg (fun _ => False) W W' := by
 have HH := keepH (holds_g H hk)
 have HB := keepH (c_all (H.pic k b hh) hn)
 have hl2 := HeldAt.look1 H.held hk
 rw [hh] at HH hl2
 have c2 : W.cell? ⟨m, 2, none⟩ = some (.map (some hd)) := cell_of H.md 2
 clear H
 go_enter Tryz.func22, Tryz.ntmps22
 go_wp2_with fail
 refine HH.out.mono ?_
 rintro e w1 ⟨rfl, rfl⟩
 go_wp2_with fail
 refine HB.out.mono ?_
 rintro e w2 ⟨⟨v, l, rfl, h1, h2, h3⟩, h4⟩
 obtain ⟨p, c, rfl, hP, hB⟩ := h2.oslice
 have HZ : Hid (Lists (g b) 0 18446744073709551615 l ∧ OPairs w2 p c l ∧ l.length ≤ n) := ⟨h1, hP, h3⟩
 have HC := keepH h4
 clear h1 h2 h3 h4 hP hB
 go_wp2_with fail
 go_ret2
 exact ⟨⟨p, c, l, by simp, HZ.out⟩, HC.out⟩
theorem OPairs.at {W : World} {p : Option Addr} {c : Nat} {l : List (Nat × Nat)} (h : OPairs W p c l) : PairsAt W p l := by
 obtain ⟨p9, c9, e9, h9, -⟩ := PRow.slice h
 injection e9 with e9
 rw [e9]; exact h9
noncomputable def heldL (pc : Nat → Option (Nat → Option Nat)) (k : Nat) : List (Nat × Nat) := match pc k with
 | some c => theL c 0 18446744073709551615
 | none => []
theorem RB.hands {A : Nat → Prop} {W : World} {m mu n : Nat} {f : Nat → Option Nat} {pc : Nat → Option (Nat → Option Nat)} (h : RB A W m mu f pc n) : ∃ ss, HandlesOf pc ss ∧ ss.length ≤ n ∧ ∀ k ∈ ss, k < 18446744073709551616 := by
 obtain ⟨mv, hv, Z, l, h1, h2, h4, h5, hR, hz, rfl, hgl, hlZ⟩ := h.begin
 refine ⟨Z.map (·.1), ⟨?_, fun x => ?_⟩, by simpa using hlZ, fun k hk => ?_⟩
 ·have : (Z.map (·.1)) = (Z.map (fun z => (z.1, z.2.2))).map (·.1) := by rw [List.map_map]; rfl
  rw [this]
  exact List.pairwise_map.2 hR
 ·rw [hP_isSome hR]
  constructor
  ·intro hx
   obtain ⟨z, hz2, rfl⟩ := List.mem_map.1 hx
   exact ⟨(z.1, z.2.2), List.mem_map.2 ⟨z, hz2, rfl⟩, rfl⟩
  ·rintro ⟨y, hy, rfl⟩
   obtain ⟨z, hz2, rfl⟩ := List.mem_map.1 hy
   exact List.mem_map.2 ⟨z, hz2, rfl⟩
 ·obtain ⟨z, hz2, rfl⟩ := List.mem_map.1 hk
  exact (hz (z.1, z.2.2) (List.mem_map.2 ⟨z, hz2, rfl⟩)).1
theorem RB.heldL {A : Nat → Prop} {W : World} {m mu n : Nat} {f : Nat → Option Nat} {pc : Nat → Option (Nat → Option Nat)} (h : RB A W m mu f pc n) (k : Nat) : (heldL pc k).length ≤ n := by
 obtain ⟨mv, hv, Z, l, h1, h2, h4, h5, hR, hz, rfl, hgl, hlZ⟩ := h.begin
 unfold Go.Proofs.YtahgaghokpicgaaGreat.heldL
 split
 ·rename_i c hc
  have hs : (hP (Z.map (fun z => (z.1, z.2.2))) k).isSome = true := by rw [hc]; rfl
  obtain ⟨z, hz3, e⟩ := (hP_isSome hR _).1 hs
  have e2 := hP_some hR hz3
  rw [e, hc] at e2
  injection e2 with e2
  obtain ⟨y, hy, rfl⟩ := List.mem_map.1 hz3
  simp only at e2
  rw [e2, theL_eq (h4 y hy).ls]
  exact (hz _ hz3).2.2
 ·simp
theorem RB.now {A : Nat → Prop} {W : World} {m mu n : Nat} {f : Nat → Option Nat} {pc : Nat → Option (Nat → Option Nat)} (h : RB A W m mu f pc n) : (theL f 0 18446744073709551615).length ≤ n := by
 obtain ⟨mv, hv, Z, l, h1, h2, h4, h5, hR, hz, rfl, hgl, hlZ⟩ := h.begin
 rw [theL_eq h2.ls]
 omega
theorem alike_ex {A : Nat → Prop} {W : World} {b m r nw hd mu n n' : Nat} {f h : Nat → Option Nat} {g : Nat → Nat → Option Nat} (hb : BothAt W b m r) (H : MoAt W m nw hd mu f h g n) (hR : RB A W r mu f (pcs h g) n') (hn : n ≤ 60000) (hn' : n' ≤ 60000) :
    Calls Tryz.prog 11 #[.pointer (some ⟨b, 0, none⟩)] W fun e W' => e = .returned (.bool true) ∧ Chg (fun _ => False) W W' := by
 obtain ⟨ss, hs1, hs2, hs3⟩ := hR.hands
 have h0 := hR.zero
 refine alike_of (L := theL f 0 18446744073709551615) (ss := ss) (wl := heldL (pcs h g)) (ok := fun k => (pcs h g k).isSome) hb (by have := hR.now; omega) (by omega) hs3 (fun k => by have := hR.heldL k; omega) (by rw [h0]; rfl) ?_ ?_ ?_ ?_ ?_ ?_
 ·refine (d_handles hR (by omega)).mono ?_
  rintro e W' ⟨⟨p, c, zs, rfl, h1, h2, h3⟩, hc⟩
  obtain rfl := h1.uniq hs1
  exact ⟨⟨p, c, rfl, h3⟩, hc⟩
 ·intro w cw
  refine (m_content (H.quiet cw) (by omega)).mono ?_
  rintro e W' ⟨⟨p, c, l, rfl, h1, h2, h3, h4⟩, hc⟩
  rw [theL_eq h1]
  exact ⟨⟨p, c, rfl, h2.at⟩, hc⟩
 ·intro w cw
  refine (d_content (hR.quiet cw)).mono ?_
  rintro e W' ⟨⟨p, c, l, rfl, h1, h2, h3⟩, hc⟩
  rw [theL_eq h1]
  exact ⟨⟨p, c, rfl, h3⟩, hc⟩
 ·intro w cw
  refine (m_handles (H.quiet cw) hn).mono ?_
  rintro e W' ⟨⟨v, zs, rfl, h1, h2, h3⟩, hc⟩
  obtain rfl := (h1.of (g := g)).uniq hs1
  obtain ⟨p, c, rfl, hk, -⟩ := h3.keys hs3
  exact ⟨⟨p, c, rfl, hk⟩, hc⟩
 ·intro w cw k hk
  cases hh : h k with
  | none =>
   refine (m_heldN (H.quiet cw) hk hh).mono ?_
   rintro e W' ⟨rfl, rfl⟩
   have e1 : pcs h g k = none := by unfold pcs; rw [hh]; rfl
   exact ⟨⟨none, 0, by unfold heldL; simp only [e1]; rfl, by unfold heldL; rw [e1]; exact .inl rfl⟩, Chg.refl _ _⟩
  | some bl =>
   refine (m_heldS (H.quiet cw) (by omega) hk hh).mono ?_
   rintro e W' ⟨⟨p, c, l, rfl, h1, h2, h3⟩, hc⟩
   have e1 : pcs h g k = some (g bl) := by unfold pcs; rw [hh]; rfl
   have e2 : heldL (pcs h g) k = l := by unfold heldL; rw [e1]; exact theL_eq h1
   exact ⟨⟨p, c, by rw [e2, e1]; rfl, by rw [e2]; exact h2.at⟩, hc⟩
 ·intro w cw k hk
  refine (d_what (hR.quiet cw) (by omega) k).mono ?_
  rintro e W' ⟨⟨p, c, l, rfl, h1, h2, h3, h4⟩, hc⟩
  have e2 : heldL (pcs h g) k = l := by
   unfold heldL
   split
   ·rename_i q hq
    exact theL_eq (h3 q hq)
   ·rename_i hq
    exact (h4 hq).symm
  exact ⟨⟨p, c, by rw [e2], by rw [e2]; exact h2⟩, hc⟩
theorem KeysAt.chgE {F : Nat → Prop} {W W' : World} {p : Option Addr} {l : List Nat} (h : KeysAt W p l) (c : Chg F W W') (hn : l = [] ∨ ∀ bk off, p = some ⟨bk, off, none⟩ → ¬ F bk) : KeysAt W' p l := by
 rcases hn with e | hn
 ·exact .inl e
 ·exact h.chg c hn
theorem PairsAt.chgE {F : Nat → Prop} {W W' : World} {p : Option Addr} {l : List (Nat × Nat)} (h : PairsAt W p l) (c : Chg F W W') (hn : l = [] ∨ ∀ bk off, p = some ⟨bk, off, none⟩ → ¬ F bk) : PairsAt W' p l := by
 rcases hn with e | hn
 ·exact .inl e
 ·exact h.chgF c hn
theorem KeysAt.low {F : Nat → Prop} {W : World} {p : Option Addr} {l : List Nat} (h : KeysAt W p l) (hF : ∀ i, i < W.heap.size → ¬ F i) : l = [] ∨ ∀ bk off, p = some ⟨bk, off, none⟩ → ¬ F bk := by
 rcases h with e | ⟨bk, off, rfl, hb, _⟩
 ·exact .inl e
 ·refine .inr (fun bk' off' e => ?_)
  injection e with e
  injection e with e _
  rw [← e]
  exact hF bk hb
theorem PairsAt.low {F : Nat → Prop} {W : World} {p : Option Addr} {l : List (Nat × Nat)} (h : PairsAt W p l) (hF : ∀ i, i < W.heap.size → ¬ F i) : l = [] ∨ ∀ bk off, p = some ⟨bk, off, none⟩ → ¬ F bk := by
 rcases h with e | ⟨bk, off, rfl, hb, _⟩
 ·exact .inl e
 ·refine .inr (fun bk' off' e => ?_)
  injection e with e
  injection e with e _
  rw [← e]
  exact hF bk hb
end Go.Proofs.YtahgaghokpicgaaGreat
