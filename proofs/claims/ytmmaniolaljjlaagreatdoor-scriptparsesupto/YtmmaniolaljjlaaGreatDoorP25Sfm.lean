/- A line is taken, by the program. (mkSfm.py) -/
import Derived.Test.YtmmaniolaljjlaaGreatDoorP24Sfl
import Derived.Deep.RegionHeld
namespace Go.Proofs.YtmmaniolaljjlaaGreatDoor
open Go.RowKit Go.Shelf Go.Maps
set_option linter.unusedVariables false

theorem SR.on {Z : World} {b vb m : Nat} {st : Option Rdg} {wr X : World} (h : SR Z b vb m st wr) (hb : Below wr.heap.size wr X) : SR Z b vb m st X := by
  obtain ⟨ce, sl, stp, mu, tv, pv, ts, ps, h1, h2, h3⟩ := h
  exact ⟨ce, sl, stp, mu, tv, pv, ts, ps, h1.on hb, h2, h3⟩
theorem SR.box {Z : World} {b vb m : Nat} {st : Option Rdg} {wr : World} (h : SR Z b vb m st wr) : ∃ row : Array Value, wr.heap[b]? = some (.cells row 105 (0, 0)) ∧ row[8]? = some (.map (some m)) ∧ IsLn wr m b := by
  obtain ⟨ce, sl, stp, mu, tv, pv, ts, ps, h1, h2, h3⟩ := h
  exact ⟨_, h1.bx, rfl, h1.ln⟩
theorem SR.bel {Z : World} {b vb m : Nat} {st : Option Rdg} {wr : World} (h : SR Z b vb m st wr) : Below Z.heap.size Z wr := by
  obtain ⟨ce, sl, stp, mu, tv, pv, ts, ps, h1, h2, h3⟩ := h
  exact h1.bel
set_option maxRecDepth 100000 in
set_option maxHeartbeats 8000000 in
theorem rd_takes (Z : World) (b vb m : Nat) (st : Option Rdg) (t : List UInt8) (ht : t.length ≤ 5000000) (hs : SzR st) (W : World) (T : Tb W) (hW : Wd W) (h : SR Z b vb m st W) :
    Calls Tryz.prog 54 #[.pointer (some ⟨b, 0, none⟩), .string (mkS t)] W (TkQ Z b vb m st t) := by
  have hsp := split_any t (by omega) W T
  obtain ⟨hsl, hse⟩ := split_len t
  obtain ⟨fs, hfs⟩ : ∃ fs, fs = Lib.split t [32] := ⟨_, rfl⟩
  have hne := split_ne t
  have hspl := hfs.symm
  rw [← hfs] at hsp hsl hse hne
  obtain ⟨f0, r0, rfl⟩ : ∃ f0 r0, fs = f0 :: r0 := by
    cases fs with
    | nil => exact absurd rfl hne
    | cons a r => exact ⟨a, r, rfl⟩
  obtain ⟨w2, hw2⟩ : ∃ w2, w2 = W.alloc (.cells ((f0 :: r0).map (fun f => Value.string (mkS f))).toArray 9) := ⟨_, rfl⟩
  obtain ⟨S0, hS0⟩ : ∃ S0, S0 = W.heap.size := ⟨_, rfl⟩
  have B2 : Below W.heap.size W w2 := by rw [hw2]; exact below_alloc _ _
  have X2 : w2.heap[S0]? = some (.cells ((f0 :: r0).map (fun f => Value.string (mkS f))).toArray 9 (0, 0)) := by rw [hw2, hS0]; exact heap_alloc_new _ _
  obtain ⟨k, hk⟩ : ∃ k, k = (f0 :: r0).length := ⟨_, rfl⟩
  obtain ⟨off', hslc, hoff⟩ := sl_any S0 0 k k 1 (by rw [hk]; simp) (Nat.le_refl _)
  have hrd : SRd w2 (some ⟨S0, off', none⟩) r0 := by
    cases r0 with
    | nil => exact .inl rfl
    | cons f1 r1 =>
      refine .inr ⟨S0, off', rfl, (Array.getElem?_eq_some_iff.1 X2).1, fun i f hi => ?_⟩
      rw [hoff (by rw [hk]; simp), cell_of X2]
      rw [show 0 + 1 + i = i + 1 by omega]
      simp only [List.getElem?_toArray, List.map_cons, List.getElem?_cons_succ]
      rw [← List.map_cons (f := fun f => Value.string (mkS f)), List.getElem?_map, hi]
      rfl
  rw [← hk, ← hw2, ← hS0] at hsp
  have hkn : k - 1 = r0.length := by rw [hk]; simp
  obtain ⟨n1, hn1⟩ : ∃ n1, n1 = k - 1 := ⟨_, rfl⟩
  rw [← hn1] at hslc
  have hn : n1 = r0.length := by omega
  have hf : ∀ f ∈ r0, f.length ≤ 200000000 := fun f hf => Nat.le_trans (hse f (by simp [hf])) (by omega)
  have hl : r0.length ≤ 200000000 := by simp at hsl; omega
  have T2 := T.on B2
  have W2 := hW.on B2
  have h2 := h.on B2
  obtain ⟨row, hbx, hr8, hln⟩ := h2.box
  have HX2 : Hid (w2.heap[S0]? = some (.cells ((f0 :: r0).map (fun f => Value.string (mkS f))).toArray 9 (0, 0))) := keepH X2
  have hc0 : ∀ w : World, w.heap[S0]? = some (.cells ((f0 :: r0).map (fun f => Value.string (mkS f))).toArray 9 (0, 0)) → w.cell? ⟨S0, 0, none⟩ = some (.string (mkS f0)) := fun w hw => by rw [cell_of hw]; rfl
  have HSP := keepH hsp
  have HS : Hid ((fun w => w.heap[b]? = some (.cells row 105 (0, 0)) ∧ IsLn w m b ∧ w.heap[S0]? = some (.cells ((f0 :: r0).map (fun f => Value.string (mkS f))).toArray 9 (0, 0))) w2.drew) := keepH ⟨hbx, hln, X2⟩
  have HC0 := keepH hc0
  have HR8 := keepH hr8
  have HSL : Hid (∀ w, (Instr.slice 67 (.slice (some ⟨S0, 0, none⟩) k k) (some (.int .i64 1)) none none).run Tryz.prog w = .ok (.slice (some ⟨S0, off', none⟩) n1 n1) w) := keepH hslc
  have bk1 : (0 : Int) < (k : Int) := by rw [hk]; simp
  have bk2 : 0 < k := by rw [hk]; simp
  by_cases e1 : f0 = cfW
  · subst e1
    have HC := keepH (rd_config Z b vb m st t r0 (some ⟨S0, off', none⟩) n1 n1 hspl hn hf w2.drew (T2.on (below_drewN (Below.refl _ _) 1)) (hrd.on (below_drewN (Below.refl _ _) 1)) (h2.on (below_drewN (Below.refl _ _) 1)))
    have HLK : Hid (∀ w, IsLn w m b → (Instr.lookup 103 (.map (some m)) (.string (mkS cfW)) true).run Tryz.prog w = .ok (.tuple #[.func (.func 88) #[.pointer (some ⟨b, 0, none⟩)] #[], .bool true]) w) := keepH (fun w hw => ln_yes (i := 0) (k := 88) hw rfl)
    obtain ⟨s, hsx⟩ : ∃ s, s = mkS t := ⟨_, rfl⟩
    obtain ⟨sf, hsf⟩ : ∃ s, s = mkS cfW := ⟨_, rfl⟩
    rw [← hsx] at HSP ⊢
    rw [← hsf] at HLK
    have HCF : Hid (∀ w : World, w.heap[S0]? = some (.cells ((cfW :: r0).map (fun f => Value.string (mkS f))).toArray 9 (0, 0)) → w.cell? ⟨S0, 0, none⟩ = some (.string sf)) := keepH (by rw [hsf]; exact HC0.out)
    have HCH : Hid (∀ w : World, w.heap[b]? = some (.cells row 105 (0, 0)) → w.cell? ⟨b, 8, none⟩ = some (.map (some m))) := keepH (fun w hw => (cell_of hw 8).trans HR8.out)
    clear hsf hsx hc0 hsp hsl hse hne hspl hw2 hS0 B2 X2 hk hslc hoff hrd hkn hn1 hn hf hl T2 W2 h2 hbx hr8 hln ht hs T hW h HC0 HR8 HX2
    go_enter Tryz.func54, Tryz.ntmps54
    go_wp2_with fail
    refine HSP.out.mono ?_
    rintro e w9 ⟨rfl, rfl⟩
    go_upto_region 2 with fail
    refine wp_region_held_drew (S := fun w => w.heap[b]? = some (.cells row 105 (0, 0)) ∧ IsLn w m b ∧ w.heap[S0]? = some (.cells ((cfW :: r0).map (fun f => Value.string (mkS f))).toArray 9 (0, 0))) (by kernel_rfl) (HS.out) ?_
    intro hHeld
    refine wpAnyH_take (i := 0) (v := ?_) rfl (by kernel_rfl) (by kernel_rfl) (by kernel_rfl) (fun _ _ _ h => h) (Or.inl ⟨by rfl, ?_⟩) hHeld ?_
    rotate_left
    · intro w hSw
      (try dsimp only at hSw)
      go_simp
      try with_reducible rfl
    (try simp only [Act.put]); (try simp only [List.setIfInBounds_toArray]); (try simp only [List.getElem_toArray]); (repeat (first | simp only [List.getElem_cons_succ] | simp only [List.getElem_cons_zero])); (repeat (first | simp only [List.set_cons_succ] | simp only [List.set_cons_zero]))
    refine wpAnyH_take (i := 1) (v := ?_) rfl (by kernel_rfl) (by kernel_rfl) (by kernel_rfl) (fun _ _ _ h => h) (Or.inl ⟨by rfl, ?_⟩) hHeld ?_
    rotate_left
    · intro w hSw
      (try dsimp only at hSw)
      go_simp
      try with_reducible rfl
    (try simp only [Act.put]); (try simp only [List.setIfInBounds_toArray]); (try simp only [List.getElem_toArray]); (repeat (first | simp only [List.getElem_cons_succ] | simp only [List.getElem_cons_zero])); (repeat (first | simp only [List.set_cons_succ] | simp only [List.set_cons_zero]))
    refine wpAnyH_take (i := 2) (v := ?_) rfl (by kernel_rfl) (by kernel_rfl) (by kernel_rfl) (fun _ _ _ h => h) (Or.inl ⟨by rfl, ?_⟩) hHeld ?_
    rotate_left
    · intro w hSw
      (try dsimp only at hSw)
      go_simp
      try with_reducible rfl
    (try simp only [Act.put]); (try simp only [List.setIfInBounds_toArray]); (try simp only [List.getElem_toArray]); (repeat (first | simp only [List.getElem_cons_succ] | simp only [List.getElem_cons_zero])); (repeat (first | simp only [List.set_cons_succ] | simp only [List.set_cons_zero]))
    refine wpAnyH_take (i := 3) (v := ?_) rfl (by kernel_rfl) (by kernel_rfl) (by kernel_rfl) (fun _ _ _ h => h) (Or.inl ⟨by rfl, ?_⟩) hHeld ?_
    rotate_left
    · intro w hSw
      (try dsimp only at hSw)
      have y8 := HCH.out w hSw.1
      go_simp
      try with_reducible rfl
    (try simp only [Act.put]); (try simp only [List.setIfInBounds_toArray]); (try simp only [List.getElem_toArray]); (repeat (first | simp only [List.getElem_cons_succ] | simp only [List.getElem_cons_zero])); (repeat (first | simp only [List.set_cons_succ] | simp only [List.set_cons_zero]))
    refine wpAnyH_take (i := 4) (v := ?_) rfl (by kernel_rfl) (by kernel_rfl) (by kernel_rfl) (fun _ _ _ h => h) (Or.inl ⟨by rfl, ?_⟩) hHeld ?_
    rotate_left
    · intro w hSw
      (try dsimp only at hSw)
      go_simp
      try with_reducible rfl
    (try simp only [Act.put]); (try simp only [List.setIfInBounds_toArray]); (try simp only [List.getElem_toArray]); (repeat (first | simp only [List.getElem_cons_succ] | simp only [List.getElem_cons_zero])); (repeat (first | simp only [List.set_cons_succ] | simp only [List.set_cons_zero]))
    refine wpAnyH_take (i := 5) (v := ?_) rfl (by kernel_rfl) (by kernel_rfl) (by kernel_rfl) (fun _ _ _ h => h) (Or.inl ⟨by rfl, ?_⟩) hHeld ?_
    rotate_left
    · intro w hSw
      (try dsimp only at hSw)
      go_simp
      try with_reducible rfl
    (try simp only [Act.put]); (try simp only [List.setIfInBounds_toArray]); (try simp only [List.getElem_toArray]); (repeat (first | simp only [List.getElem_cons_succ] | simp only [List.getElem_cons_zero])); (repeat (first | simp only [List.set_cons_succ] | simp only [List.set_cons_zero]))
    refine wpAnyH_take (i := 6) (v := ?_) rfl (by kernel_rfl) (by kernel_rfl) (by kernel_rfl) (fun _ _ _ h => h) (Or.inl ⟨by rfl, ?_⟩) hHeld ?_
    rotate_left
    · intro w hSw
      (try dsimp only at hSw)
      have y0 := HCF.out w hSw.2.2
      go_simp
      try with_reducible rfl
    (try simp only [Act.put]); (try simp only [List.setIfInBounds_toArray]); (try simp only [List.getElem_toArray]); (repeat (first | simp only [List.getElem_cons_succ] | simp only [List.getElem_cons_zero])); (repeat (first | simp only [List.set_cons_succ] | simp only [List.set_cons_zero]))
    refine wpAnyH_take (i := 7) (v := ?_) rfl (by kernel_rfl) (by kernel_rfl) (by kernel_rfl) (fun _ _ _ h => h) (Or.inl ⟨by rfl, ?_⟩) hHeld ?_
    rotate_left
    · intro w hSw
      (try dsimp only at hSw)
      have yl := HLK.out w hSw.2.1
      go_simp
      try with_reducible rfl
    (try simp only [Act.put]); (try simp only [List.setIfInBounds_toArray]); (try simp only [List.getElem_toArray]); (repeat (first | simp only [List.getElem_cons_succ] | simp only [List.getElem_cons_zero])); (repeat (first | simp only [List.set_cons_succ] | simp only [List.set_cons_zero]))
    refine wpAnyH_take (i := 8) (v := ?_) rfl (by kernel_rfl) (by kernel_rfl) (by kernel_rfl) (fun _ _ _ h => h) (Or.inl ⟨by rfl, ?_⟩) hHeld ?_
    rotate_left
    · intro w hSw
      (try dsimp only at hSw)
      go_simp
      try with_reducible rfl
    (try simp only [Act.put]); (try simp only [List.setIfInBounds_toArray]); (try simp only [List.getElem_toArray]); (repeat (first | simp only [List.getElem_cons_succ] | simp only [List.getElem_cons_zero])); (repeat (first | simp only [List.set_cons_succ] | simp only [List.set_cons_zero]))
    refine wpAnyH_take (i := 9) (v := ?_) rfl (by kernel_rfl) (by kernel_rfl) (by kernel_rfl) (fun _ _ _ h => h) (Or.inl ⟨by rfl, ?_⟩) hHeld ?_
    rotate_left
    · intro w hSw
      (try dsimp only at hSw)
      go_simp
      try with_reducible rfl
    (try simp only [Act.put]); (try simp only [List.setIfInBounds_toArray]); (try simp only [List.getElem_toArray]); (repeat (first | simp only [List.getElem_cons_succ] | simp only [List.getElem_cons_zero])); (repeat (first | simp only [List.set_cons_succ] | simp only [List.set_cons_zero]))
    refine wpAnyH_take (i := 10) (v := ?_) rfl (by kernel_rfl) (by kernel_rfl) (by kernel_rfl) (fun _ _ _ h => h) (Or.inl ⟨by rfl, ?_⟩) hHeld ?_
    rotate_left
    · intro w hSw
      (try dsimp only at hSw)
      go_simp
      try with_reducible rfl
    (try simp only [Act.put]); (try simp only [List.setIfInBounds_toArray]); (try simp only [List.getElem_toArray]); (repeat (first | simp only [List.getElem_cons_succ] | simp only [List.getElem_cons_zero])); (repeat (first | simp only [List.set_cons_succ] | simp only [List.set_cons_zero]))
    refine wpAnyH_take (i := 11) (v := ?_) rfl (by kernel_rfl) (by kernel_rfl) (by kernel_rfl) (fun _ _ _ h => h) (Or.inl ⟨by rfl, ?_⟩) hHeld ?_
    rotate_left
    · intro w hSw
      (try dsimp only at hSw)
      go_simp
      try with_reducible rfl
    (try simp only [Act.put]); (try simp only [List.setIfInBounds_toArray]); (try simp only [List.getElem_toArray]); (repeat (first | simp only [List.getElem_cons_succ] | simp only [List.getElem_cons_zero])); (repeat (first | simp only [List.set_cons_succ] | simp only [List.set_cons_zero]))
    refine wpAnyH_take (i := 12) (v := ?_) rfl (by kernel_rfl) (by kernel_rfl) (by kernel_rfl) (fun _ _ _ h => h) (Or.inl ⟨by rfl, ?_⟩) hHeld ?_
    rotate_left
    · intro w hSw
      (try dsimp only at hSw)
      go_simp
      try with_reducible rfl
    (try simp only [Act.put]); (try simp only [List.setIfInBounds_toArray]); (try simp only [List.getElem_toArray]); (repeat (first | simp only [List.getElem_cons_succ] | simp only [List.getElem_cons_zero])); (repeat (first | simp only [List.set_cons_succ] | simp only [List.set_cons_zero]))
    refine wpAnyH_done (by kernel_rfl) ?_ _
    go_simp
    clear hHeld
    have hslc := HSL.out
    go_wp2_with fail
    refine Calls.mono (HC.out) ?_
    rintro e w4 ⟨ok, rfl, hh⟩
    have HH := keepH hh
    clear hh
    go_wp2_with fail
    go_ret
    exact ⟨ok, rfl, HH.out⟩
  · by_cases e2 : f0 = thW
    · subst e2
      have HC := keepH (rd_thread Z b vb m st t r0 (some ⟨S0, off', none⟩) n1 n1 hspl hn hs w2.drew (h2.on (below_drewN (Below.refl _ _) 1)))
      have HLK : Hid (∀ w, IsLn w m b → (Instr.lookup 103 (.map (some m)) (.string (mkS thW)) true).run Tryz.prog w = .ok (.tuple #[.func (.func 89) #[.pointer (some ⟨b, 0, none⟩)] #[], .bool true]) w) := keepH (fun w hw => ln_yes (i := 1) (k := 89) hw rfl)
      obtain ⟨s, hsx⟩ : ∃ s, s = mkS t := ⟨_, rfl⟩
      obtain ⟨sf, hsf⟩ : ∃ s, s = mkS thW := ⟨_, rfl⟩
      rw [← hsx] at HSP ⊢
      rw [← hsf] at HLK
      have HCF : Hid (∀ w : World, w.heap[S0]? = some (.cells ((thW :: r0).map (fun f => Value.string (mkS f))).toArray 9 (0, 0)) → w.cell? ⟨S0, 0, none⟩ = some (.string sf)) := keepH (by rw [hsf]; exact HC0.out)
      have HCH : Hid (∀ w : World, w.heap[b]? = some (.cells row 105 (0, 0)) → w.cell? ⟨b, 8, none⟩ = some (.map (some m))) := keepH (fun w hw => (cell_of hw 8).trans HR8.out)
      clear hsf hsx hc0 hsp hsl hse hne hspl hw2 hS0 B2 X2 hk hslc hoff hrd hkn hn1 hn hf hl T2 W2 h2 hbx hr8 hln ht hs T hW h HC0 HR8 HX2
      go_enter Tryz.func54, Tryz.ntmps54
      go_wp2_with fail
      refine HSP.out.mono ?_
      rintro e w9 ⟨rfl, rfl⟩
      go_upto_region 2 with fail
      refine wp_region_held_drew (S := fun w => w.heap[b]? = some (.cells row 105 (0, 0)) ∧ IsLn w m b ∧ w.heap[S0]? = some (.cells ((thW :: r0).map (fun f => Value.string (mkS f))).toArray 9 (0, 0))) (by kernel_rfl) (HS.out) ?_
      intro hHeld
      refine wpAnyH_take (i := 0) (v := ?_) rfl (by kernel_rfl) (by kernel_rfl) (by kernel_rfl) (fun _ _ _ h => h) (Or.inl ⟨by rfl, ?_⟩) hHeld ?_
      rotate_left
      · intro w hSw
        (try dsimp only at hSw)
        go_simp
        try with_reducible rfl
      (try simp only [Act.put]); (try simp only [List.setIfInBounds_toArray]); (try simp only [List.getElem_toArray]); (repeat (first | simp only [List.getElem_cons_succ] | simp only [List.getElem_cons_zero])); (repeat (first | simp only [List.set_cons_succ] | simp only [List.set_cons_zero]))
      refine wpAnyH_take (i := 1) (v := ?_) rfl (by kernel_rfl) (by kernel_rfl) (by kernel_rfl) (fun _ _ _ h => h) (Or.inl ⟨by rfl, ?_⟩) hHeld ?_
      rotate_left
      · intro w hSw
        (try dsimp only at hSw)
        go_simp
        try with_reducible rfl
      (try simp only [Act.put]); (try simp only [List.setIfInBounds_toArray]); (try simp only [List.getElem_toArray]); (repeat (first | simp only [List.getElem_cons_succ] | simp only [List.getElem_cons_zero])); (repeat (first | simp only [List.set_cons_succ] | simp only [List.set_cons_zero]))
      refine wpAnyH_take (i := 2) (v := ?_) rfl (by kernel_rfl) (by kernel_rfl) (by kernel_rfl) (fun _ _ _ h => h) (Or.inl ⟨by rfl, ?_⟩) hHeld ?_
      rotate_left
      · intro w hSw
        (try dsimp only at hSw)
        go_simp
        try with_reducible rfl
      (try simp only [Act.put]); (try simp only [List.setIfInBounds_toArray]); (try simp only [List.getElem_toArray]); (repeat (first | simp only [List.getElem_cons_succ] | simp only [List.getElem_cons_zero])); (repeat (first | simp only [List.set_cons_succ] | simp only [List.set_cons_zero]))
      refine wpAnyH_take (i := 3) (v := ?_) rfl (by kernel_rfl) (by kernel_rfl) (by kernel_rfl) (fun _ _ _ h => h) (Or.inl ⟨by rfl, ?_⟩) hHeld ?_
      rotate_left
      · intro w hSw
        (try dsimp only at hSw)
        have y8 := HCH.out w hSw.1
        go_simp
        try with_reducible rfl
      (try simp only [Act.put]); (try simp only [List.setIfInBounds_toArray]); (try simp only [List.getElem_toArray]); (repeat (first | simp only [List.getElem_cons_succ] | simp only [List.getElem_cons_zero])); (repeat (first | simp only [List.set_cons_succ] | simp only [List.set_cons_zero]))
      refine wpAnyH_take (i := 4) (v := ?_) rfl (by kernel_rfl) (by kernel_rfl) (by kernel_rfl) (fun _ _ _ h => h) (Or.inl ⟨by rfl, ?_⟩) hHeld ?_
      rotate_left
      · intro w hSw
        (try dsimp only at hSw)
        go_simp
        try with_reducible rfl
      (try simp only [Act.put]); (try simp only [List.setIfInBounds_toArray]); (try simp only [List.getElem_toArray]); (repeat (first | simp only [List.getElem_cons_succ] | simp only [List.getElem_cons_zero])); (repeat (first | simp only [List.set_cons_succ] | simp only [List.set_cons_zero]))
      refine wpAnyH_take (i := 5) (v := ?_) rfl (by kernel_rfl) (by kernel_rfl) (by kernel_rfl) (fun _ _ _ h => h) (Or.inl ⟨by rfl, ?_⟩) hHeld ?_
      rotate_left
      · intro w hSw
        (try dsimp only at hSw)
        go_simp
        try with_reducible rfl
      (try simp only [Act.put]); (try simp only [List.setIfInBounds_toArray]); (try simp only [List.getElem_toArray]); (repeat (first | simp only [List.getElem_cons_succ] | simp only [List.getElem_cons_zero])); (repeat (first | simp only [List.set_cons_succ] | simp only [List.set_cons_zero]))
      refine wpAnyH_take (i := 6) (v := ?_) rfl (by kernel_rfl) (by kernel_rfl) (by kernel_rfl) (fun _ _ _ h => h) (Or.inl ⟨by rfl, ?_⟩) hHeld ?_
      rotate_left
      · intro w hSw
        (try dsimp only at hSw)
        have y0 := HCF.out w hSw.2.2
        go_simp
        try with_reducible rfl
      (try simp only [Act.put]); (try simp only [List.setIfInBounds_toArray]); (try simp only [List.getElem_toArray]); (repeat (first | simp only [List.getElem_cons_succ] | simp only [List.getElem_cons_zero])); (repeat (first | simp only [List.set_cons_succ] | simp only [List.set_cons_zero]))
      refine wpAnyH_take (i := 7) (v := ?_) rfl (by kernel_rfl) (by kernel_rfl) (by kernel_rfl) (fun _ _ _ h => h) (Or.inl ⟨by rfl, ?_⟩) hHeld ?_
      rotate_left
      · intro w hSw
        (try dsimp only at hSw)
        have yl := HLK.out w hSw.2.1
        go_simp
        try with_reducible rfl
      (try simp only [Act.put]); (try simp only [List.setIfInBounds_toArray]); (try simp only [List.getElem_toArray]); (repeat (first | simp only [List.getElem_cons_succ] | simp only [List.getElem_cons_zero])); (repeat (first | simp only [List.set_cons_succ] | simp only [List.set_cons_zero]))
      refine wpAnyH_take (i := 8) (v := ?_) rfl (by kernel_rfl) (by kernel_rfl) (by kernel_rfl) (fun _ _ _ h => h) (Or.inl ⟨by rfl, ?_⟩) hHeld ?_
      rotate_left
      · intro w hSw
        (try dsimp only at hSw)
        go_simp
        try with_reducible rfl
      (try simp only [Act.put]); (try simp only [List.setIfInBounds_toArray]); (try simp only [List.getElem_toArray]); (repeat (first | simp only [List.getElem_cons_succ] | simp only [List.getElem_cons_zero])); (repeat (first | simp only [List.set_cons_succ] | simp only [List.set_cons_zero]))
      refine wpAnyH_take (i := 9) (v := ?_) rfl (by kernel_rfl) (by kernel_rfl) (by kernel_rfl) (fun _ _ _ h => h) (Or.inl ⟨by rfl, ?_⟩) hHeld ?_
      rotate_left
      · intro w hSw
        (try dsimp only at hSw)
        go_simp
        try with_reducible rfl
      (try simp only [Act.put]); (try simp only [List.setIfInBounds_toArray]); (try simp only [List.getElem_toArray]); (repeat (first | simp only [List.getElem_cons_succ] | simp only [List.getElem_cons_zero])); (repeat (first | simp only [List.set_cons_succ] | simp only [List.set_cons_zero]))
      refine wpAnyH_take (i := 10) (v := ?_) rfl (by kernel_rfl) (by kernel_rfl) (by kernel_rfl) (fun _ _ _ h => h) (Or.inl ⟨by rfl, ?_⟩) hHeld ?_
      rotate_left
      · intro w hSw
        (try dsimp only at hSw)
        go_simp
        try with_reducible rfl
      (try simp only [Act.put]); (try simp only [List.setIfInBounds_toArray]); (try simp only [List.getElem_toArray]); (repeat (first | simp only [List.getElem_cons_succ] | simp only [List.getElem_cons_zero])); (repeat (first | simp only [List.set_cons_succ] | simp only [List.set_cons_zero]))
      refine wpAnyH_take (i := 11) (v := ?_) rfl (by kernel_rfl) (by kernel_rfl) (by kernel_rfl) (fun _ _ _ h => h) (Or.inl ⟨by rfl, ?_⟩) hHeld ?_
      rotate_left
      · intro w hSw
        (try dsimp only at hSw)
        go_simp
        try with_reducible rfl
      (try simp only [Act.put]); (try simp only [List.setIfInBounds_toArray]); (try simp only [List.getElem_toArray]); (repeat (first | simp only [List.getElem_cons_succ] | simp only [List.getElem_cons_zero])); (repeat (first | simp only [List.set_cons_succ] | simp only [List.set_cons_zero]))
      refine wpAnyH_take (i := 12) (v := ?_) rfl (by kernel_rfl) (by kernel_rfl) (by kernel_rfl) (fun _ _ _ h => h) (Or.inl ⟨by rfl, ?_⟩) hHeld ?_
      rotate_left
      · intro w hSw
        (try dsimp only at hSw)
        go_simp
        try with_reducible rfl
      (try simp only [Act.put]); (try simp only [List.setIfInBounds_toArray]); (try simp only [List.getElem_toArray]); (repeat (first | simp only [List.getElem_cons_succ] | simp only [List.getElem_cons_zero])); (repeat (first | simp only [List.set_cons_succ] | simp only [List.set_cons_zero]))
      refine wpAnyH_done (by kernel_rfl) ?_ _
      go_simp
      clear hHeld
      have hslc := HSL.out
      go_wp2_with fail
      refine Calls.mono (HC.out) ?_
      rintro e w4 ⟨ok, rfl, hh⟩
      have HH := keepH hh
      clear hh
      go_wp2_with fail
      go_ret
      exact ⟨ok, rfl, HH.out⟩
    · by_cases e3 : f0 = pkW
      · subst e3
        have HC := keepH (rd_picks Z b vb m st t r0 (some ⟨S0, off', none⟩) n1 n1 hspl hn hl hf hs w2.drew (T2.on (below_drewN (Below.refl _ _) 1)) (hrd.on (below_drewN (Below.refl _ _) 1)) (h2.on (below_drewN (Below.refl _ _) 1)))
        have HLK : Hid (∀ w, IsLn w m b → (Instr.lookup 103 (.map (some m)) (.string (mkS pkW)) true).run Tryz.prog w = .ok (.tuple #[.func (.func 90) #[.pointer (some ⟨b, 0, none⟩)] #[], .bool true]) w) := keepH (fun w hw => ln_yes (i := 2) (k := 90) hw rfl)
        obtain ⟨s, hsx⟩ : ∃ s, s = mkS t := ⟨_, rfl⟩
        obtain ⟨sf, hsf⟩ : ∃ s, s = mkS pkW := ⟨_, rfl⟩
        rw [← hsx] at HSP ⊢
        rw [← hsf] at HLK
        have HCF : Hid (∀ w : World, w.heap[S0]? = some (.cells ((pkW :: r0).map (fun f => Value.string (mkS f))).toArray 9 (0, 0)) → w.cell? ⟨S0, 0, none⟩ = some (.string sf)) := keepH (by rw [hsf]; exact HC0.out)
        have HCH : Hid (∀ w : World, w.heap[b]? = some (.cells row 105 (0, 0)) → w.cell? ⟨b, 8, none⟩ = some (.map (some m))) := keepH (fun w hw => (cell_of hw 8).trans HR8.out)
        clear hsf hsx hc0 hsp hsl hse hne hspl hw2 hS0 B2 X2 hk hslc hoff hrd hkn hn1 hn hf hl T2 W2 h2 hbx hr8 hln ht hs T hW h HC0 HR8 HX2
        go_enter Tryz.func54, Tryz.ntmps54
        go_wp2_with fail
        refine HSP.out.mono ?_
        rintro e w9 ⟨rfl, rfl⟩
        go_upto_region 2 with fail
        refine wp_region_held_drew (S := fun w => w.heap[b]? = some (.cells row 105 (0, 0)) ∧ IsLn w m b ∧ w.heap[S0]? = some (.cells ((pkW :: r0).map (fun f => Value.string (mkS f))).toArray 9 (0, 0))) (by kernel_rfl) (HS.out) ?_
        intro hHeld
        refine wpAnyH_take (i := 0) (v := ?_) rfl (by kernel_rfl) (by kernel_rfl) (by kernel_rfl) (fun _ _ _ h => h) (Or.inl ⟨by rfl, ?_⟩) hHeld ?_
        rotate_left
        · intro w hSw
          (try dsimp only at hSw)
          go_simp
          try with_reducible rfl
        (try simp only [Act.put]); (try simp only [List.setIfInBounds_toArray]); (try simp only [List.getElem_toArray]); (repeat (first | simp only [List.getElem_cons_succ] | simp only [List.getElem_cons_zero])); (repeat (first | simp only [List.set_cons_succ] | simp only [List.set_cons_zero]))
        refine wpAnyH_take (i := 1) (v := ?_) rfl (by kernel_rfl) (by kernel_rfl) (by kernel_rfl) (fun _ _ _ h => h) (Or.inl ⟨by rfl, ?_⟩) hHeld ?_
        rotate_left
        · intro w hSw
          (try dsimp only at hSw)
          go_simp
          try with_reducible rfl
        (try simp only [Act.put]); (try simp only [List.setIfInBounds_toArray]); (try simp only [List.getElem_toArray]); (repeat (first | simp only [List.getElem_cons_succ] | simp only [List.getElem_cons_zero])); (repeat (first | simp only [List.set_cons_succ] | simp only [List.set_cons_zero]))
        refine wpAnyH_take (i := 2) (v := ?_) rfl (by kernel_rfl) (by kernel_rfl) (by kernel_rfl) (fun _ _ _ h => h) (Or.inl ⟨by rfl, ?_⟩) hHeld ?_
        rotate_left
        · intro w hSw
          (try dsimp only at hSw)
          go_simp
          try with_reducible rfl
        (try simp only [Act.put]); (try simp only [List.setIfInBounds_toArray]); (try simp only [List.getElem_toArray]); (repeat (first | simp only [List.getElem_cons_succ] | simp only [List.getElem_cons_zero])); (repeat (first | simp only [List.set_cons_succ] | simp only [List.set_cons_zero]))
        refine wpAnyH_take (i := 3) (v := ?_) rfl (by kernel_rfl) (by kernel_rfl) (by kernel_rfl) (fun _ _ _ h => h) (Or.inl ⟨by rfl, ?_⟩) hHeld ?_
        rotate_left
        · intro w hSw
          (try dsimp only at hSw)
          have y8 := HCH.out w hSw.1
          go_simp
          try with_reducible rfl
        (try simp only [Act.put]); (try simp only [List.setIfInBounds_toArray]); (try simp only [List.getElem_toArray]); (repeat (first | simp only [List.getElem_cons_succ] | simp only [List.getElem_cons_zero])); (repeat (first | simp only [List.set_cons_succ] | simp only [List.set_cons_zero]))
        refine wpAnyH_take (i := 4) (v := ?_) rfl (by kernel_rfl) (by kernel_rfl) (by kernel_rfl) (fun _ _ _ h => h) (Or.inl ⟨by rfl, ?_⟩) hHeld ?_
        rotate_left
        · intro w hSw
          (try dsimp only at hSw)
          go_simp
          try with_reducible rfl
        (try simp only [Act.put]); (try simp only [List.setIfInBounds_toArray]); (try simp only [List.getElem_toArray]); (repeat (first | simp only [List.getElem_cons_succ] | simp only [List.getElem_cons_zero])); (repeat (first | simp only [List.set_cons_succ] | simp only [List.set_cons_zero]))
        refine wpAnyH_take (i := 5) (v := ?_) rfl (by kernel_rfl) (by kernel_rfl) (by kernel_rfl) (fun _ _ _ h => h) (Or.inl ⟨by rfl, ?_⟩) hHeld ?_
        rotate_left
        · intro w hSw
          (try dsimp only at hSw)
          go_simp
          try with_reducible rfl
        (try simp only [Act.put]); (try simp only [List.setIfInBounds_toArray]); (try simp only [List.getElem_toArray]); (repeat (first | simp only [List.getElem_cons_succ] | simp only [List.getElem_cons_zero])); (repeat (first | simp only [List.set_cons_succ] | simp only [List.set_cons_zero]))
        refine wpAnyH_take (i := 6) (v := ?_) rfl (by kernel_rfl) (by kernel_rfl) (by kernel_rfl) (fun _ _ _ h => h) (Or.inl ⟨by rfl, ?_⟩) hHeld ?_
        rotate_left
        · intro w hSw
          (try dsimp only at hSw)
          have y0 := HCF.out w hSw.2.2
          go_simp
          try with_reducible rfl
        (try simp only [Act.put]); (try simp only [List.setIfInBounds_toArray]); (try simp only [List.getElem_toArray]); (repeat (first | simp only [List.getElem_cons_succ] | simp only [List.getElem_cons_zero])); (repeat (first | simp only [List.set_cons_succ] | simp only [List.set_cons_zero]))
        refine wpAnyH_take (i := 7) (v := ?_) rfl (by kernel_rfl) (by kernel_rfl) (by kernel_rfl) (fun _ _ _ h => h) (Or.inl ⟨by rfl, ?_⟩) hHeld ?_
        rotate_left
        · intro w hSw
          (try dsimp only at hSw)
          have yl := HLK.out w hSw.2.1
          go_simp
          try with_reducible rfl
        (try simp only [Act.put]); (try simp only [List.setIfInBounds_toArray]); (try simp only [List.getElem_toArray]); (repeat (first | simp only [List.getElem_cons_succ] | simp only [List.getElem_cons_zero])); (repeat (first | simp only [List.set_cons_succ] | simp only [List.set_cons_zero]))
        refine wpAnyH_take (i := 8) (v := ?_) rfl (by kernel_rfl) (by kernel_rfl) (by kernel_rfl) (fun _ _ _ h => h) (Or.inl ⟨by rfl, ?_⟩) hHeld ?_
        rotate_left
        · intro w hSw
          (try dsimp only at hSw)
          go_simp
          try with_reducible rfl
        (try simp only [Act.put]); (try simp only [List.setIfInBounds_toArray]); (try simp only [List.getElem_toArray]); (repeat (first | simp only [List.getElem_cons_succ] | simp only [List.getElem_cons_zero])); (repeat (first | simp only [List.set_cons_succ] | simp only [List.set_cons_zero]))
        refine wpAnyH_take (i := 9) (v := ?_) rfl (by kernel_rfl) (by kernel_rfl) (by kernel_rfl) (fun _ _ _ h => h) (Or.inl ⟨by rfl, ?_⟩) hHeld ?_
        rotate_left
        · intro w hSw
          (try dsimp only at hSw)
          go_simp
          try with_reducible rfl
        (try simp only [Act.put]); (try simp only [List.setIfInBounds_toArray]); (try simp only [List.getElem_toArray]); (repeat (first | simp only [List.getElem_cons_succ] | simp only [List.getElem_cons_zero])); (repeat (first | simp only [List.set_cons_succ] | simp only [List.set_cons_zero]))
        refine wpAnyH_take (i := 10) (v := ?_) rfl (by kernel_rfl) (by kernel_rfl) (by kernel_rfl) (fun _ _ _ h => h) (Or.inl ⟨by rfl, ?_⟩) hHeld ?_
        rotate_left
        · intro w hSw
          (try dsimp only at hSw)
          go_simp
          try with_reducible rfl
        (try simp only [Act.put]); (try simp only [List.setIfInBounds_toArray]); (try simp only [List.getElem_toArray]); (repeat (first | simp only [List.getElem_cons_succ] | simp only [List.getElem_cons_zero])); (repeat (first | simp only [List.set_cons_succ] | simp only [List.set_cons_zero]))
        refine wpAnyH_take (i := 11) (v := ?_) rfl (by kernel_rfl) (by kernel_rfl) (by kernel_rfl) (fun _ _ _ h => h) (Or.inl ⟨by rfl, ?_⟩) hHeld ?_
        rotate_left
        · intro w hSw
          (try dsimp only at hSw)
          go_simp
          try with_reducible rfl
        (try simp only [Act.put]); (try simp only [List.setIfInBounds_toArray]); (try simp only [List.getElem_toArray]); (repeat (first | simp only [List.getElem_cons_succ] | simp only [List.getElem_cons_zero])); (repeat (first | simp only [List.set_cons_succ] | simp only [List.set_cons_zero]))
        refine wpAnyH_take (i := 12) (v := ?_) rfl (by kernel_rfl) (by kernel_rfl) (by kernel_rfl) (fun _ _ _ h => h) (Or.inl ⟨by rfl, ?_⟩) hHeld ?_
        rotate_left
        · intro w hSw
          (try dsimp only at hSw)
          go_simp
          try with_reducible rfl
        (try simp only [Act.put]); (try simp only [List.setIfInBounds_toArray]); (try simp only [List.getElem_toArray]); (repeat (first | simp only [List.getElem_cons_succ] | simp only [List.getElem_cons_zero])); (repeat (first | simp only [List.set_cons_succ] | simp only [List.set_cons_zero]))
        refine wpAnyH_done (by kernel_rfl) ?_ _
        go_simp
        clear hHeld
        have hslc := HSL.out
        go_wp2_with fail
        refine Calls.mono (HC.out) ?_
        rintro e w4 ⟨ok, rfl, hh⟩
        have HH := keepH hh
        clear hh
        go_wp2_with fail
        go_ret
        exact ⟨ok, rfl, HH.out⟩
      · have HC := keepH (rd_op Z b vb m st t f0 r0 ht hspl e1 e2 e3 hs w2.drew (T2.on (below_drewN (Below.refl _ _) 1)) (W2.on (below_drewN (Below.refl _ _) 1)) (h2.on (below_drewN (Below.refl _ _) 1)))
        have HLK : Hid (∀ w, IsLn w m b → (Instr.lookup 103 (.map (some m)) (.string (mkS f0)) true).run Tryz.prog w = .ok (.tuple #[.nilFunc, .bool false]) w) := keepH (fun w hw => ln_no hw e1 e2 e3)
        obtain ⟨s, hsx⟩ : ∃ s, s = mkS t := ⟨_, rfl⟩
        obtain ⟨sf, hsf⟩ : ∃ s, s = mkS f0 := ⟨_, rfl⟩
        rw [← hsx] at HSP ⊢
        rw [← hsx] at HC
        rw [← hsf] at HLK
        have HCF : Hid (∀ w : World, w.heap[S0]? = some (.cells ((f0 :: r0).map (fun f => Value.string (mkS f))).toArray 9 (0, 0)) → w.cell? ⟨S0, 0, none⟩ = some (.string sf)) := keepH (by rw [hsf]; exact HC0.out)
        have HCH : Hid (∀ w : World, w.heap[b]? = some (.cells row 105 (0, 0)) → w.cell? ⟨b, 8, none⟩ = some (.map (some m))) := keepH (fun w hw => (cell_of hw 8).trans HR8.out)
        clear hsf hsx hc0 hsp hsl hse hne hspl hw2 hS0 B2 X2 hk hslc hoff hrd hkn hn1 hn hf hl T2 W2 h2 hbx hr8 hln ht hs T hW h HC0 HR8 HX2 e1 e2 e3
        go_enter Tryz.func54, Tryz.ntmps54
        go_wp2_with fail
        refine HSP.out.mono ?_
        rintro e w9 ⟨rfl, rfl⟩
        go_upto_region 2 with fail
        refine wp_region_held_drew (S := fun w => w.heap[b]? = some (.cells row 105 (0, 0)) ∧ IsLn w m b ∧ w.heap[S0]? = some (.cells ((f0 :: r0).map (fun f => Value.string (mkS f))).toArray 9 (0, 0))) (by kernel_rfl) (HS.out) ?_
        intro hHeld
        refine wpAnyH_take (i := 0) (v := ?_) rfl (by kernel_rfl) (by kernel_rfl) (by kernel_rfl) (fun _ _ _ h => h) (Or.inl ⟨by rfl, ?_⟩) hHeld ?_
        rotate_left
        · intro w hSw
          (try dsimp only at hSw)
          go_simp
          try with_reducible rfl
        (try simp only [Act.put]); (try simp only [List.setIfInBounds_toArray]); (try simp only [List.getElem_toArray]); (repeat (first | simp only [List.getElem_cons_succ] | simp only [List.getElem_cons_zero])); (repeat (first | simp only [List.set_cons_succ] | simp only [List.set_cons_zero]))
        refine wpAnyH_take (i := 1) (v := ?_) rfl (by kernel_rfl) (by kernel_rfl) (by kernel_rfl) (fun _ _ _ h => h) (Or.inl ⟨by rfl, ?_⟩) hHeld ?_
        rotate_left
        · intro w hSw
          (try dsimp only at hSw)
          go_simp
          try with_reducible rfl
        (try simp only [Act.put]); (try simp only [List.setIfInBounds_toArray]); (try simp only [List.getElem_toArray]); (repeat (first | simp only [List.getElem_cons_succ] | simp only [List.getElem_cons_zero])); (repeat (first | simp only [List.set_cons_succ] | simp only [List.set_cons_zero]))
        refine wpAnyH_take (i := 2) (v := ?_) rfl (by kernel_rfl) (by kernel_rfl) (by kernel_rfl) (fun _ _ _ h => h) (Or.inl ⟨by rfl, ?_⟩) hHeld ?_
        rotate_left
        · intro w hSw
          (try dsimp only at hSw)
          go_simp
          try with_reducible rfl
        (try simp only [Act.put]); (try simp only [List.setIfInBounds_toArray]); (try simp only [List.getElem_toArray]); (repeat (first | simp only [List.getElem_cons_succ] | simp only [List.getElem_cons_zero])); (repeat (first | simp only [List.set_cons_succ] | simp only [List.set_cons_zero]))
        refine wpAnyH_take (i := 3) (v := ?_) rfl (by kernel_rfl) (by kernel_rfl) (by kernel_rfl) (fun _ _ _ h => h) (Or.inl ⟨by rfl, ?_⟩) hHeld ?_
        rotate_left
        · intro w hSw
          (try dsimp only at hSw)
          have y8 := HCH.out w hSw.1
          go_simp
          try with_reducible rfl
        (try simp only [Act.put]); (try simp only [List.setIfInBounds_toArray]); (try simp only [List.getElem_toArray]); (repeat (first | simp only [List.getElem_cons_succ] | simp only [List.getElem_cons_zero])); (repeat (first | simp only [List.set_cons_succ] | simp only [List.set_cons_zero]))
        refine wpAnyH_take (i := 4) (v := ?_) rfl (by kernel_rfl) (by kernel_rfl) (by kernel_rfl) (fun _ _ _ h => h) (Or.inl ⟨by rfl, ?_⟩) hHeld ?_
        rotate_left
        · intro w hSw
          (try dsimp only at hSw)
          go_simp
          try with_reducible rfl
        (try simp only [Act.put]); (try simp only [List.setIfInBounds_toArray]); (try simp only [List.getElem_toArray]); (repeat (first | simp only [List.getElem_cons_succ] | simp only [List.getElem_cons_zero])); (repeat (first | simp only [List.set_cons_succ] | simp only [List.set_cons_zero]))
        refine wpAnyH_take (i := 5) (v := ?_) rfl (by kernel_rfl) (by kernel_rfl) (by kernel_rfl) (fun _ _ _ h => h) (Or.inl ⟨by rfl, ?_⟩) hHeld ?_
        rotate_left
        · intro w hSw
          (try dsimp only at hSw)
          go_simp
          try with_reducible rfl
        (try simp only [Act.put]); (try simp only [List.setIfInBounds_toArray]); (try simp only [List.getElem_toArray]); (repeat (first | simp only [List.getElem_cons_succ] | simp only [List.getElem_cons_zero])); (repeat (first | simp only [List.set_cons_succ] | simp only [List.set_cons_zero]))
        refine wpAnyH_take (i := 6) (v := ?_) rfl (by kernel_rfl) (by kernel_rfl) (by kernel_rfl) (fun _ _ _ h => h) (Or.inl ⟨by rfl, ?_⟩) hHeld ?_
        rotate_left
        · intro w hSw
          (try dsimp only at hSw)
          have y0 := HCF.out w hSw.2.2
          go_simp
          try with_reducible rfl
        (try simp only [Act.put]); (try simp only [List.setIfInBounds_toArray]); (try simp only [List.getElem_toArray]); (repeat (first | simp only [List.getElem_cons_succ] | simp only [List.getElem_cons_zero])); (repeat (first | simp only [List.set_cons_succ] | simp only [List.set_cons_zero]))
        refine wpAnyH_take (i := 7) (v := ?_) rfl (by kernel_rfl) (by kernel_rfl) (by kernel_rfl) (fun _ _ _ h => h) (Or.inl ⟨by rfl, ?_⟩) hHeld ?_
        rotate_left
        · intro w hSw
          (try dsimp only at hSw)
          have yl := HLK.out w hSw.2.1
          go_simp
          try with_reducible rfl
        (try simp only [Act.put]); (try simp only [List.setIfInBounds_toArray]); (try simp only [List.getElem_toArray]); (repeat (first | simp only [List.getElem_cons_succ] | simp only [List.getElem_cons_zero])); (repeat (first | simp only [List.set_cons_succ] | simp only [List.set_cons_zero]))
        refine wpAnyH_take (i := 8) (v := ?_) rfl (by kernel_rfl) (by kernel_rfl) (by kernel_rfl) (fun _ _ _ h => h) (Or.inl ⟨by rfl, ?_⟩) hHeld ?_
        rotate_left
        · intro w hSw
          (try dsimp only at hSw)
          go_simp
          try with_reducible rfl
        (try simp only [Act.put]); (try simp only [List.setIfInBounds_toArray]); (try simp only [List.getElem_toArray]); (repeat (first | simp only [List.getElem_cons_succ] | simp only [List.getElem_cons_zero])); (repeat (first | simp only [List.set_cons_succ] | simp only [List.set_cons_zero]))
        refine wpAnyH_take (i := 9) (v := ?_) rfl (by kernel_rfl) (by kernel_rfl) (by kernel_rfl) (fun _ _ _ h => h) (Or.inl ⟨by rfl, ?_⟩) hHeld ?_
        rotate_left
        · intro w hSw
          (try dsimp only at hSw)
          go_simp
          try with_reducible rfl
        (try simp only [Act.put]); (try simp only [List.setIfInBounds_toArray]); (try simp only [List.getElem_toArray]); (repeat (first | simp only [List.getElem_cons_succ] | simp only [List.getElem_cons_zero])); (repeat (first | simp only [List.set_cons_succ] | simp only [List.set_cons_zero]))
        refine wpAnyH_take (i := 10) (v := ?_) rfl (by kernel_rfl) (by kernel_rfl) (by kernel_rfl) (fun _ _ _ h => h) (Or.inl ⟨by rfl, ?_⟩) hHeld ?_
        rotate_left
        · intro w hSw
          (try dsimp only at hSw)
          go_simp
          try with_reducible rfl
        (try simp only [Act.put]); (try simp only [List.setIfInBounds_toArray]); (try simp only [List.getElem_toArray]); (repeat (first | simp only [List.getElem_cons_succ] | simp only [List.getElem_cons_zero])); (repeat (first | simp only [List.set_cons_succ] | simp only [List.set_cons_zero]))
        refine wpAnyH_take (i := 11) (v := ?_) rfl (by kernel_rfl) (by kernel_rfl) (by kernel_rfl) (fun _ _ _ h => h) (Or.inl ⟨by rfl, ?_⟩) hHeld ?_
        rotate_left
        · intro w hSw
          (try dsimp only at hSw)
          go_simp
          try with_reducible rfl
        (try simp only [Act.put]); (try simp only [List.setIfInBounds_toArray]); (try simp only [List.getElem_toArray]); (repeat (first | simp only [List.getElem_cons_succ] | simp only [List.getElem_cons_zero])); (repeat (first | simp only [List.set_cons_succ] | simp only [List.set_cons_zero]))
        refine wpAnyH_take (i := 12) (v := ?_) rfl (by kernel_rfl) (by kernel_rfl) (by kernel_rfl) (fun _ _ _ h => h) (Or.inl ⟨by rfl, ?_⟩) hHeld ?_
        rotate_left
        · intro w hSw
          (try dsimp only at hSw)
          go_simp
          try with_reducible rfl
        (try simp only [Act.put]); (try simp only [List.setIfInBounds_toArray]); (try simp only [List.getElem_toArray]); (repeat (first | simp only [List.getElem_cons_succ] | simp only [List.getElem_cons_zero])); (repeat (first | simp only [List.set_cons_succ] | simp only [List.set_cons_zero]))
        refine wpAnyH_done (by kernel_rfl) ?_ _
        go_simp
        clear hHeld
        go_wp2_with fail
        refine HC.out.mono ?_
        rintro e w4 ⟨ok, rfl, hh⟩
        have HH := keepH hh
        clear hh
        go_wp2_with fail
        go_ret
        exact ⟨ok, rfl, HH.out⟩
end Go.Proofs.YtmmaniolaljjlaaGreatDoor
