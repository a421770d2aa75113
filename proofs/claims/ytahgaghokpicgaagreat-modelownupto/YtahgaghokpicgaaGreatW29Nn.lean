/- What is there, as a list. -/
import Derived.Test.YtahgaghokpicgaaGreatW16Nh
import Derived.Test.YtahgaghokpicgaaGreatW28D8g
import Derived.Test.YtahgaghokpicgaaGreatW17Nk
import Derived.Test.YtahgaghokpicgaaGreatW19Nt
import Derived.Test.YtahgaghokpicgaaGreatW13Npe
namespace Go.Proofs.YtahgaghokpicgaaGreat
open Go.RowKit Go.Maps
set_option linter.unusedVariables false
set_option maxHeartbeats 16000000
set_option maxRecDepth 100000 in
theorem m_content {W : World} {m nw hd mu : Nat} {f h : Nat → Option Nat} {g : Nat → Nat → Option Nat} {n : Nat} (H : MoAt W m nw hd mu f h g n) (hn : n ≤ 8796093022000) :
    Calls Tryz.prog 18 #[.pointer (some ⟨m, 0, none⟩)] W fun e W' => (∃ p c l, e = .returned (.slice p l.length c) ∧ Lists f 0 18446744073709551615 l ∧ OPairs W' p c l ∧ (∀ bk off, p = some ⟨bk, off, none⟩ → W.heap.size ≤ bk) ∧ l.length ≤ n) ∧ Chg (fun _ => False) W W' := by
 have HB := keepH (c_all H.now hn)
 have c1 : W.cell? ⟨m, 1, none⟩ = some (.map (some nw)) := cell_of H.md 1
 clear H
 go_enter Tryz.func18, Tryz.ntmps18
 go_wp2_with fail
 refine HB.out.mono ?_
 rintro e w1 ⟨⟨v, l, rfl, h1, h2, h3⟩, h4⟩
 obtain ⟨p, c, rfl, hP, hB⟩ := h2.oslice
 have HZ : Hid (Lists f 0 18446744073709551615 l ∧ OPairs w1 p c l ∧ (∀ bk off, p = some ⟨bk, off, none⟩ → W.heap.size ≤ bk) ∧ l.length ≤ n) := ⟨h1, hP, hB, h3⟩
 have HC := keepH h4
 clear h1 h2 h3 h4 hP hB
 go_wp2_with fail
 go_ret
 exact ⟨⟨p, c, l, rfl, HZ.out⟩, HC.out⟩
set_option maxRecDepth 100000 in
theorem m_heldN {W : World} {m nw hd mu : Nat} {f h : Nat → Option Nat} {g : Nat → Nat → Option Nat} {n : Nat} (H : MoAt W m nw hd mu f h g n) {k : Nat} (hk : k < 18446744073709551616) (hh : h k = none) :
    Calls Tryz.prog 22 #[.pointer (some ⟨m, 0, none⟩), .int .u64 k] W fun e W' => e = .returned (.tuple #[.slice none 0 0, .bool false]) ∧ W' = W := by
 have HH := keepH (holds_g H hk)
 rw [hh] at HH
 clear H
 go_enter Tryz.func22, Tryz.ntmps22
 go_wp2_with fail
 refine HH.out.mono ?_
 rintro e w1 ⟨rfl, rfl⟩
 go_wp2_with fail
 go_ret2
 exact ⟨by simp, rfl⟩
set_option maxRecDepth 100000 in
theorem m_heldS {W : World} {m nw hd mu : Nat} {f h : Nat → Option Nat} {g : Nat → Nat → Option Nat} {n : Nat} (H : MoAt W m nw hd mu f h g n) (hn : n ≤ 8796093022000) {k b : Nat} (hk : k < 18446744073709551616) (hh : h k = some b) :
    Calls Tryz.prog 22 #[.pointer (some ⟨m, 0, none⟩), .int .u64 k] W fun e W' => (∃ p c l, e = .returned (.tuple #[.slice p l.length c, .bool true]) ∧ Lists (g b) 0 18446744073709551615 l ∧ OPairs W' p c l ∧ l.length ≤ n) ∧ Chg (fun _ => False) W W' := by
 have HH := keepH (holds_g H hk)
 have HB := keepH (c_all (H.pic k b hh) hn)
 have hl2 := HeldAt.look1 H.held hk
 rw [hh] at HH hl2
 have c2 : W.cell? ⟨m, 2, none⟩ = some (.map (some hd)) := cell_of H.md 2
 clear H
 go_enter Tryz.func22, Tryz.ntmps22
 go_wp2_with fail
 refine HH.out.mono ?_
 rintro e w1 ⟨rfl, rfl⟩
 go_wp2_with fail
 refine HB.out.mono ?_
 rintro e w2 ⟨⟨v, l, rfl, h1, h2, h3⟩, h4⟩
 obtain ⟨p, c, rfl, hP, hB⟩ := h2.oslice
 have HZ : Hid (Lists (g b) 0 18446744073709551615 l ∧ OPairs w2 p c l ∧ l.length ≤ n) := ⟨h1, hP, h3⟩
 have HC := keepH h4
 clear h1 h2 h3 h4 hP hB
 go_wp2_with fail
 go_ret2
 exact ⟨⟨p, c, l, by simp, HZ.out⟩, HC.out⟩
theorem OPairs.at {W : World} {p : Option Addr} {c : Nat} {l : List (Nat × Nat)} (h : OPairs W p c l) : PairsAt W p l := by
 obtain ⟨p9, c9, e9, h9, -⟩ := PRow.slice h
 injection e9 with e9
 rw [e9]; exact h9
noncomputable def heldL (pc : Nat → Option (Nat → Option Nat)) (k : Nat) : List (Nat × Nat) := match pc k with
 | some c => theL c 0 18446744073709551615
 | none => []
theorem RB.hands {A : Nat → Prop} {W : World} {m mu n : Nat} {f : Nat → Option Nat} {pc : Nat → Option (Nat → Option Nat)} (h : RB A W m mu f pc n) : ∃ ss, HandlesOf pc ss ∧ ss.length ≤ n ∧ ∀ k ∈ ss, k < 18446744073709551616 := by
 obtain ⟨mv, hv, Z, l, h1, h2, h4, h5, hR, hz, rfl, hgl, hlZ⟩ := h.begin
 refine ⟨Z.map (·.1), ⟨?_, fun x => ?_⟩, by simpa using hlZ, fun k hk => ?_⟩
 ·have : (Z.map (·.1)) = (Z.map (fun z => (z.1, z.2.2))).map (·.1) := by rw [List.map_map]; rfl
  rw [this]
  exact List.pairwise_map.2 hR
 ·rw [hP_isSome hR]
  constructor
  ·intro hx
   obtain ⟨z, hz2, rfl⟩ := List.mem_map.1 hx
   exact ⟨(z.1, z.2.2), List.mem_map.2 ⟨z, hz2, rfl⟩, rfl⟩
  ·rintro ⟨y, hy, rfl⟩
   obtain ⟨z, hz2, rfl⟩ := List.mem_map.1 hy
   exact List.mem_map.2 ⟨z, hz2, rfl⟩
 ·obtain ⟨z, hz2, rfl⟩ := List.mem_map.1 hk
  exact (hz (z.1, z.2.2) (List.mem_map.2 ⟨z, hz2, rfl⟩)).1
theorem RB.heldL {A : Nat → Prop} {W : World} {m mu n : Nat} {f : Nat → Option Nat} {pc : Nat → Option (Nat → Option Nat)} (h : RB A W m mu f pc n) (k : Nat) : (heldL pc k).length ≤ n := by
 obtain ⟨mv, hv, Z, l, h1, h2, h4, h5, hR, hz, rfl, hgl, hlZ⟩ := h.begin
 unfold Go.Proofs.YtahgaghokpicgaaGreat.heldL
 split
 ·rename_i c hc
  have hs : (hP (Z.map (fun z => (z.1, z.2.2))) k).isSome = true := by rw [hc]; rfl
  obtain ⟨z, hz3, e⟩ := (hP_isSome hR _).1 hs
  have e2 := hP_some hR hz3
  rw [e, hc] at e2
  injection e2 with e2
  obtain ⟨y, hy, rfl⟩ := List.mem_map.1 hz3
  simp only at e2
  rw [e2, theL_eq (h4 y hy).ls]
  exact (hz _ hz3).2.2
 ·simp
theorem RB.now {A : Nat → Prop} {W : World} {m mu n : Nat} {f : Nat → Option Nat} {pc : Nat → Option (Nat → Option Nat)} (h : RB A W m mu f pc n) : (theL f 0 18446744073709551615).length ≤ n := by
 obtain ⟨mv, hv, Z, l, h1, h2, h4, h5, hR, hz, rfl, hgl, hlZ⟩ := h.begin
 rw [theL_eq h2.ls]
 omega
theorem alike_ex {A : Nat → Prop} {W : World} {b m r nw hd mu n n' : Nat} {f h : Nat → Option Nat} {g : Nat → Nat → Option Nat} (hb : BothAt W b m r) (H : MoAt W m nw hd mu f h g n) (hR : RB A W r mu f (pcs h g) n') (hn : n ≤ 60000) (hn' : n' ≤ 60000) :
    Calls Tryz.prog 11 #[.pointer (some ⟨b, 0, none⟩)] W fun e W' => e = .returned (.bool true) ∧ Chg (fun _ => False) W W' := by
 obtain ⟨ss, hs1, hs2, hs3⟩ := hR.hands
 have h0 := hR.zero
 refine alike_of (L := theL f 0 18446744073709551615) (ss := ss) (wl := heldL (pcs h g)) (ok := fun k => (pcs h g k).isSome) hb (by have := hR.now; omega) (by omega) hs3 (fun k => by have := hR.heldL k; omega) (by rw [h0]; rfl) ?_ ?_ ?_ ?_ ?_ ?_
 ·refine (d_handles hR (by omega)).mono ?_
  rintro e W' ⟨⟨p, c, zs, rfl, h1, h2, h3⟩, hc⟩
  obtain rfl := h1.uniq hs1
  exact ⟨⟨p, c, rfl, h3⟩, hc⟩
 ·intro w cw
  refine (m_content (H.quiet cw) (by omega)).mono ?_
  rintro e W' ⟨⟨p, c, l, rfl, h1, h2, h3, h4⟩, hc⟩
  rw [theL_eq h1]
  exact ⟨⟨p, c, rfl, h2.at⟩, hc⟩
 ·intro w cw
  refine (d_content (hR.quiet cw)).mono ?_
  rintro e W' ⟨⟨p, c, l, rfl, h1, h2, h3⟩, hc⟩
  rw [theL_eq h1]
  exact ⟨⟨p, c, rfl, h3⟩, hc⟩
 ·intro w cw
  refine (m_handles (H.quiet cw) hn).mono ?_
  rintro e W' ⟨⟨v, zs, rfl, h1, h2, h3⟩, hc⟩
  obtain rfl := (h1.of (g := g)).uniq hs1
  obtain ⟨p, c, rfl, hk, -⟩ := h3.keys hs3
  exact ⟨⟨p, c, rfl, hk⟩, hc⟩
 ·intro w cw k hk
  cases hh : h k with
  | none =>
   refine (m_heldN (H.quiet cw) hk hh).mono ?_
   rintro e W' ⟨rfl, rfl⟩
   have e1 : pcs h g k = none := by unfold pcs; rw [hh]; rfl
   exact ⟨⟨none, 0, by unfold heldL; simp only [e1]; rfl, by unfold heldL; rw [e1]; exact .inl rfl⟩, Chg.refl _ _⟩
  | some bl =>
   refine (m_heldS (H.quiet cw) (by omega) hk hh).mono ?_
   rintro e W' ⟨⟨p, c, l, rfl, h1, h2, h3⟩, hc⟩
   have e1 : pcs h g k = some (g bl) := by unfold pcs; rw [hh]; rfl
   have e2 : heldL (pcs h g) k = l := by unfold heldL; rw [e1]; exact theL_eq h1
   exact ⟨⟨p, c, by rw [e2, e1]; rfl, by rw [e2]; exact h2.at⟩, hc⟩
 ·intro w cw k hk
  refine (d_what (hR.quiet cw) (by omega) k).mono ?_
  rintro e W' ⟨⟨p, c, l, rfl, h1, h2, h3, h4⟩, hc⟩
  have e2 : heldL (pcs h g) k = l := by
   unfold heldL
   split
   ·rename_i q hq
    exact theL_eq (h3 q hq)
   ·rename_i hq
    exact (h4 hq).symm
  exact ⟨⟨p, c, by rw [e2], by rw [e2]; exact h2⟩, hc⟩
theorem KeysAt.chgE {F : Nat → Prop} {W W' : World} {p : Option Addr} {l : List Nat} (h : KeysAt W p l) (c : Chg F W W') (hn : l = [] ∨ ∀ bk off, p = some ⟨bk, off, none⟩ → ¬ F bk) : KeysAt W' p l := by
 rcases hn with e | hn
 ·exact .inl e
 ·exact h.chg c hn
theorem PairsAt.chgE {F : Nat → Prop} {W W' : World} {p : Option Addr} {l : List (Nat × Nat)} (h : PairsAt W p l) (c : Chg F W W') (hn : l = [] ∨ ∀ bk off, p = some ⟨bk, off, none⟩ → ¬ F bk) : PairsAt W' p l := by
 rcases hn with e | hn
 ·exact .inl e
 ·exact h.chgF c hn
theorem KeysAt.low {F : Nat → Prop} {W : World} {p : Option Addr} {l : List Nat} (h : KeysAt W p l) (hF : ∀ i, i < W.heap.size → ¬ F i) : l = [] ∨ ∀ bk off, p = some ⟨bk, off, none⟩ → ¬ F bk := by
 rcases h with e | ⟨bk, off, rfl, hb, _⟩
 ·exact .inl e
 ·refine .inr (fun bk' off' e => ?_)
  injection e with e
  injection e with e _
  rw [← e]
  exact hF bk hb
theorem PairsAt.low {F : Nat → Prop} {W : World} {p : Option Addr} {l : List (Nat × Nat)} (h : PairsAt W p l) (hF : ∀ i, i < W.heap.size → ¬ F i) : l = [] ∨ ∀ bk off, p = some ⟨bk, off, none⟩ → ¬ F bk := by
 rcases h with e | ⟨bk, off, rfl, hb, _⟩
 ·exact .inl e
 ·refine .inr (fun bk' off' e => ?_)
  injection e with e
  injection e with e _
  rw [← e]
  exact hF bk hb
theorem do_told {o : OpP} (ho : o.Ok) {r5 : Bool} {r6 r7 : Int} {kp : Option Addr} {kc th : Nat} (hth : th < 18446744073709551616) {W : World} {m nw hd mu : Nat} {f h : Nat → Option Nat} {g : Nat → Nat → Option Nat} {n : Nat} (H : MoAt W m nw hd mu f h g n) (hmu : mu ≤ 1024) (hn : n ≤ 8796093022000) (hks : KeysAt W kp o.ks) {A : Ans} (hA : A = tellP mu f (pcs h g) o th) :
    Calls Tryz.prog 17 #[.pointer (some ⟨m, 0, none⟩), .agg #[.int .u8 o.kd, .int .u64 o.k, .int .u64 o.v, .int .u64 o.od, .int .u64 o.hk, .bool r5, .int .i64 r6, .int .i64 r7, .slice kp o.ks.length kc, .int .u64 o.lo, .int .u64 o.hi], .int .u64 th] W fun e W' => Told W W' A e ∧ (∃ h' g', MoAt W' m nw hd mu (doF o A f) h' g' (n + 1) ∧ pcs h' g' = doP o A f (pcs h g)) ∧ Chg (fun i => i = nw ∨ i = hd) W W' := by
 refine (Do_all ho hth H hmu hn hks hA).mono ?_
 rintro e W' ⟨h1, ⟨cl, hcl, hM⟩, hc⟩
 exact ⟨h1, ⟨_, _, hM, pcs_do o A (fun k b hb => by have := H.blk.2.2.2 k b hb; omega)⟩, hc⟩
structure TwoAt (W : World) (b m nw hd r mu : Nat) (n : Nat) : Prop where
 both : BothAt W b m r
 ex : ∃ f h g, MoAt W m nw hd mu f h g n ∧ RB (fun _ => False) W r mu f (pcs h g) n
theorem map_not {H : Type} {R : Value → Option (DataW H × List MemPlace)} {el : Nat → DataW H} {ok : Nat → Prop} {W : World} {b n : Nat} {f : Nat → Option Nat} (h : MapR R el ok W b n f) {cs : Array Value} {t : TypeId} {p : Nat × Nat} : W.heap[b]? ≠ some (.cells cs t p) := by
 obtain ⟨D, ⟨es, clock, e, r⟩, _⟩ := h
 intro q
 rw [e] at q
 injection q with q
 cases q
theorem MoAt.cells {F : Nat → Prop} {W W' : World} {m nw hd mu : Nat} {f h : Nat → Option Nat} {g : Nat → Nat → Option Nat} {n : Nat} (H : MoAt W m nw hd mu f h g n) (c : Chg F W W') (hF : ∀ i, F i → i < W.heap.size → ∃ cs t p, W.heap[i]? = some (.cells cs t p) ∧ t ≠ 100) : MoAt W' m nw hd mu f h g n := by
 refine H.chg c (fun x => ?_) (fun x => ?_) (fun x => ?_) (fun k b hb x => ?_)
 ·obtain ⟨cs, t, p, e, ht⟩ := hF m x H.blk.1
  rw [H.md] at e
  injection e with e
  injection e with _ e
  exact ht e.symm
 ·obtain ⟨cs, t, p, e, ht⟩ := hF nw x H.blk.2.1
  exact map_not H.now e
 ·obtain ⟨cs, t, p, e, ht⟩ := hF hd x H.blk.2.2.1
  exact map_not H.held e
 ·obtain ⟨cs, t, p, e, ht⟩ := hF b x (H.blk.2.2.2 k b hb)
  exact map_not (H.pic k b hb) e
theorem RB.maps {A : Nat → Prop} {W W' : World} {r nw hd mu n n' m : Nat} {f f' h : Nat → Option Nat} {g : Nat → Nat → Option Nat} {pc : Nat → Option (Nat → Option Nat)} (hR : RB A W r mu f pc n) (H : MoAt W m nw hd mu f' h g n') (c : Chg (fun i => i = nw ∨ i = hd) W W') : RB A W' r mu f pc n :=
 hR.chg c (fun k hk cs t p e => by
  rcases hk with rfl | rfl
  ·exact absurd e (map_not H.now)
  ·exact absurd e (map_not H.held))
set_option maxRecDepth 100000 in
theorem new_gg (mu : Nat) (h1 : 1 ≤ mu) (h2 : mu ≤ 1024) (W : World) : Calls Tryz.prog 24 #[.int .i64 mu] W fun e W' => e = .returned (.tuple #[.pointer (some ⟨W.heap.size + 2, 0, none⟩), .int .i64 0]) ∧ MoAt W' (W.heap.size + 2) W.heap.size (W.heap.size + 1) mu (fun _ => none) (fun _ => none) (fun _ _ => none) 0 ∧ Chg (fun _ => False) W W' := by
 have hmm := @run_makeMap Tryz.prog
 have q1 : ¬ (mu : Int) < 1 := by omega
 have q2 : ¬ (mu : Int) > 1024 := by omega
 have q3 : ¬ (1024 : Int) < (mu : Int) := by omega
 go_enter Tryz.func24, Tryz.ntmps24
 go_wp2_with fail
 go_ret2
 refine ⟨by simp, ⟨?_, ?_, ?_, fun k b hb => by simp at hb, by omega, by omega, by omega, fun k b hb => by simp at hb⟩, (((Chg.refl _ _).alloc _).alloc _).alloc _⟩
 ·have e := heap_alloc_new ((W.alloc (.map #[] 0)).alloc (.map #[] 0)) (.cells #[.int .i64 mu, .map (some W.heap.size), .map (some (W.heap.size + 1))] 100)
  rw [World.size_alloc, World.size_alloc] at e
  simpa using e
 ·exact MapR.chg (F := fun _ => False) (MapR.made _ _ _ W) (((Chg.refl _ _).alloc _).alloc _) (fun x => x)
 ·have e := MapR.made heldM elH (fun _ => True) (W.alloc (.map #[] 0))
  rw [World.size_alloc] at e
  exact MapR.chg (F := fun _ => False) e ((Chg.refl _ _).alloc _) (fun x => x)
set_option maxRecDepth 100000 in
theorem new_no (mu : Int) (h : mu < 1 ∨ 1024 < mu) (W : World) : Calls Tryz.prog 24 #[.int .i64 mu] W fun e W' => e = .returned (.tuple #[.pointer none, .int .i64 2]) ∧ W' = W := by
 by_cases h1 : mu < 1
 ·go_enter Tryz.func24, Tryz.ntmps24
  go_wp2_with fail
  (try simp only [Exit.inBlock, Exit.then])
  go_ret2
  exact ⟨rfl, rfl⟩
 ·have h2 : 1024 < mu := by omega
  clear h
  go_enter Tryz.func24, Tryz.ntmps24
  go_wp2_with fail
  (try simp only [Exit.inBlock, Exit.then])
  go_ret2
  exact ⟨rfl, rfl⟩
set_option maxRecDepth 100000 in
theorem new6_no (mu : Int) (h : mu < 1 ∨ 1024 < mu) (W : World) : Calls Tryz.prog 25 #[.int .i64 mu] W fun e W' => e = .returned (.tuple #[.pointer none, .int .i64 2]) ∧ W' = W := by
 by_cases h1 : mu < 1
 ·go_enter Tryz.func25, Tryz.ntmps25
  go_wp2_with fail
  go_ret2
  exact ⟨by simp, rfl⟩
 ·have h2 : 1024 < mu := by omega
  have h3 : mu > 1024 := h2
  clear h
  go_enter Tryz.func25, Tryz.ntmps25
  go_wp2_with fail
  go_ret2
  exact ⟨by simp, rfl⟩
set_option maxRecDepth 100000 in
theorem begun_no (mu : Int) (h : mu < 1 ∨ 1024 < mu) (W : World) : Calls Tryz.prog 6 #[.int .i64 mu] W fun e W' => e = .returned (.tuple #[.pointer none, .bool true]) ∧ W' = W := by
 have H1 := keepH (new_no mu h W)
 have H2 := keepH (new6_no mu h W)
 clear h
 go_enter Tryz.func6, Tryz.ntmps6
 go_wp2_with fail
 refine H1.out.mono ?_
 rintro e w1 ⟨rfl, rfl⟩
 go_wp2_with fail
 refine H2.out.mono ?_
 rintro e w2 ⟨rfl, rfl⟩
 go_wp2_with fail
 go_ret2
 exact ⟨by simp, rfl⟩
set_option maxRecDepth 100000 in
theorem begun_yes (mu : Nat) (h1 : 1 ≤ mu) (h2 : mu ≤ 1024) (W : World) : Calls Tryz.prog 6 #[.int .i64 mu] W fun e W' => (∃ b m nw hd r, e = .returned (.tuple #[.pointer (some ⟨b, 0, none⟩), .bool true]) ∧ TwoAt W' b m nw hd r mu 0 ∧ W.heap.size ≤ nw ∧ W.heap.size ≤ hd ∧ W.heap.size ≤ r) ∧ Chg (fun _ => False) W W' := by
 have H1 := keepH (new_gg mu h1 h2 W)
 have H2 := keepH (fun w => r_new6 w (mu := (mu : Int)) (by omega) (by omega))
 clear h1 h2
 go_enter Tryz.func6, Tryz.ntmps6
 go_wp2_with fail
 refine H1.out.mono ?_
 rintro e w1 ⟨rfl, hM, C1⟩
 obtain ⟨m, hm⟩ : ∃ m, m = W.heap.size + 2 := ⟨_, rfl⟩
 obtain ⟨hd, hhd⟩ : ∃ m, m = W.heap.size + 1 := ⟨_, rfl⟩
 obtain ⟨nw, hnw⟩ : ∃ m, m = W.heap.size := ⟨_, rfl⟩
 rw [← hm, ← hhd, ← hnw] at hM
 rw [← hm]
 have HM := keepH hM
 have HC1 := keepH C1
 have HNM : Hid (m = W.heap.size + 2 ∧ hd = W.heap.size + 1 ∧ nw = W.heap.size) := ⟨hm, hhd, hnw⟩
 clear hM C1 hm hhd hnw H1
 go_wp2_with fail
 refine (H2.out w1).mono ?_
 rintro e w2 ⟨rfl, hR, C2⟩
 obtain ⟨r, hr⟩ : ∃ r, r = w1.heap.size := ⟨_, rfl⟩
 rw [← hr] at hR ⊢
 have HR := keepH hR
 have HC2 := keepH C2
 have HNR := keepH hr
 clear hR C2 hr H2
 go_wp2_with fail
 go_ret2
 have c3 : Chg (fun _ => False) w2 (w2.alloc (.cells #[.pointer (some ⟨m, 0, none⟩), .pointer (some ⟨r, 0, none⟩)] 45)) := (Chg.refl _ _).alloc _
 have hn := HNM.out
 have hr := HNR.out
 have hs := HC1.out.size
 refine ⟨⟨w2.heap.size, m, nw, hd, r, by simp, ⟨heap_alloc_new _ _, fun _ => none, fun _ => none, fun _ _ => none, (HM.out.quiet HC2.out).quiet c3, ⟨[], [], ⟨.slice none 0 0, .slice none 0 0, [], HR.out.quiet c3, RL.nil _, rfl, fun z hz => (by cases hz), fun b hb => (by cases hb), fun z hz => (by cases hz)⟩, .nil, fun z hz => (by cases hz), rfl, Nat.le_refl _, Nat.le_refl _⟩⟩, by omega, by omega, by omega⟩, chgF (chgF HC1.out HC2.out) c3⟩
structure CallP where
 tk : Bool
 o : OpP
 r5 : Bool
 r6 : Int
 r7 : Int
 kp : Option Addr
 kc : Nat
 B : Ans
 lp : Option Addr
 lc : Nat
 hn : Nat
def CallP.cs (x : CallP) : List Value := [.bool x.tk, .int .u8 x.o.kd, .int .u64 x.o.k, .int .u64 x.o.v, .int .u64 x.o.od, .int .u64 x.o.hk, .bool x.r5, .int .i64 x.r6, .int .i64 x.r7, .slice x.kp x.o.ks.length x.kc, .int .u64 x.o.lo, .int .u64 x.o.hi, .int .i64 x.B.e, .bool x.B.f, .int .u64 x.B.x, .bool x.B.d, .int .u64 x.B.h, .slice x.lp x.B.l.length x.lc, .int .u64 x.B.n, .int .u64 x.hn]
structure CallP.Ok (W : World) (x : CallP) : Prop where
 o : x.o.Ok
 w6 : (Lit.int .i64 x.r6).wf = true
 w7 : (Lit.int .i64 x.r7).wf = true
 ks : KeysAt W x.kp x.o.ks
 kl : x.o.ks.length ≤ 17592186043904
 ah : x.B.h < 18446744073709551616
 ps : PairsAt W x.lp x.B.l
 pl : x.B.l.length ≤ 8796093021952
 hn : x.hn < 18446744073709551616
def CallsAtP (W : World) (p : Option Addr) (l : List CallP) : Prop := l = [] ∨ ∃ bk off, p = some ⟨bk, off, none⟩ ∧ bk < W.heap.size ∧ ∀ (i : Nat) (x : CallP), l[i]? = some x → x.Ok W ∧ ∀ (j : Nat) (u : Value), x.cs[j]? = some u → W.cell? ⟨bk, off + i * 20 + j, none⟩ = some u
theorem two_alike {W : World} {b m nw hd r mu n : Nat} (H : TwoAt W b m nw hd r mu n) (hn : n ≤ 60000) : Calls Tryz.prog 11 #[.pointer (some ⟨b, 0, none⟩)] W fun e W' => e = .returned (.bool true) ∧ Chg (fun _ => False) W W' := by
 obtain ⟨hb, f, h, g, hM, hR⟩ := H
 exact alike_ex hb hM hR hn hn
theorem rangeP {W : World} {bk o : Nat} {x : CallP} (h : ∀ (j : Nat) (u : Value), x.cs[j]? = some u → W.cell? ⟨bk, o + j, none⟩ = some u) : W.rangeAt bk o x.cs := h
end Go.Proofs.YtahgaghokpicgaaGreat
namespace Go.Proofs.YtahgaghokpicgaaGreat
open Go.RowKit Go.Maps Go.Shelf
set_option linter.unusedVariables false
set_option maxHeartbeats 16000000
end Go.Proofs.YtahgaghokpicgaaGreat
namespace Go.Proofs.YtahgaghokpicgaaGreat
open Go.RowKit Go.Maps Go.Shelf
open Go.WideElems (Fit rd rg rd_val rg_of)
set_option linter.unusedVariables false
set_option maxHeartbeats 16000000
end Go.Proofs.YtahgaghokpicgaaGreat
