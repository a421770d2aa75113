/- The line of a config, by the program. (mkSfl.py) -/
import Derived.Test.YtmmaniolaljjlaaGreatDoorB17Sfk
import Derived.Test.YtmmaniolaljjlaaGreatDoorB11Sej
import Derived.Deep.RegionHeld
namespace Go.Proofs.YtmmaniolaljjlaaGreatDoor
open Go.RowKit Go.Shelf Go.Maps
set_option linter.unusedVariables false

def NumsV (W : World) (fs : List (List UInt8)) (v : Value) (W' : World) : Prop := (∃ us x, fs.mapM intP = some us ∧ v = .tuple #[x, .bool true] ∧ StZ W us x W') ∨ (fs.mapM intP = none ∧ v = .tuple #[.slice none 0 0, .bool false] ∧ Below W.heap.size W W')
theorem nums_v {W : World} {fs : List (List UInt8)} {e : Ending} {W' : World} (h : NumsStZ W fs e W') : ∃ v, e = .returned v ∧ NumsV W fs v W' := by
  rcases h with ⟨us, x, a, rfl, b⟩ | ⟨a, rfl, b⟩
  · exact ⟨_, rfl, .inl ⟨us, x, a, rfl, b⟩⟩
  · exact ⟨_, rfl, .inr ⟨a, rfl, b⟩⟩
theorem nums_t {W : World} {fs : List (List UInt8)} {v : Value} {W' : World} (h : NumsV W fs v W') : ∃ x ok, v = .tuple #[x, .bool ok] ∧ ((ok = true ∧ ∃ us, fs.mapM intP = some us ∧ StZ W us x W') ∨ (ok = false ∧ fs.mapM intP = none ∧ Below W.heap.size W W')) := by
  rcases h with ⟨us, x, a, rfl, b⟩ | ⟨a, rfl, b⟩
  · exact ⟨_, true, rfl, .inl ⟨rfl, us, a, b⟩⟩
  · exact ⟨_, false, rfl, .inr ⟨rfl, a, b⟩⟩
theorem three_ints {W X : World} {v : Value} {us : List Int} (h : StZ W us v X) (hl : us.length = 3) : ∃ a b d g c, us = [a, b, d] ∧ v = .slice (some ⟨g, 0, none⟩) 3 c ∧ X.cell? ⟨g, 0, none⟩ = some (.int .i64 a) ∧ X.cell? ⟨g, 1, none⟩ = some (.int .i64 b) ∧ X.cell? ⟨g, 2, none⟩ = some (.int .i64 d) ∧ W.heap.size ≤ g ∧ g < X.heap.size := by
  match us, hl with
  | [a, b, d], _ =>
    have hc := fun g (hg : v.ownBlock = some g) => h.row.cells (g := g) hg
    have hlt := fun k hk => row_lt h.row k hk
    rcases h.row.2 with ⟨hv, h0⟩ | ⟨g, cap, cur, hv, _⟩
    · simp at h0
    · have c0 := hc g (by rw [hv]; rfl) 0 (.int .i64 a) rfl
      have c1 := hc g (by rw [hv]; rfl) 1 (.int .i64 b) rfl
      have c2 := hc g (by rw [hv]; rfl) 2 (.int .i64 d) rfl
      rw [Addr.add_mid] at c0 c1 c2
      exact ⟨a, b, d, g, cap, rfl, hv, by simpa using c0, by simpa using c1, by simpa using c2, h.new g (by rw [hv]; rfl), hlt g (by rw [hv]; rfl)⟩
theorem cfg_none {st : Option Rdg} {t f1 f2 f3 f4 : List UInt8} (h : Lib.split t [32] = [cfW, f1, f2, f3, f4]) (hs : atN st = 0) (hm : [f1, f2, f4].mapM intP = none) : NoG st t := no_cf4 h hs (fun ce sl stp mu i1 i2 i3 i4 hc e => by
  simp only [List.cons.injEq, and_true] at e
  obtain ⟨e1, e2, e3, e4⟩ := e
  have := intsM_itoa [ce, sl, mu] (fun u hu => by simp at hu; rcases hu with rfl | rfl | rfl <;> assumption)
  simp only [List.map_cons, List.map_nil, ← e1, ← e2, ← e4] at this
  rw [this] at hm
  cases hm)
theorem cfg_none2 {st : Option Rdg} {t f1 f2 f3 f4 : List UInt8} (h : Lib.split t [32] = [cfW, f1, f2, f3, f4]) (hs : atN st = 0) (hm : natP f3 = none) : NoG st t := no_cf4 h hs (fun ce sl stp mu i1 i2 i3 i4 hc e => by
  simp only [List.cons.injEq, and_true] at e
  obtain ⟨e1, e2, e3, e4⟩ := e
  rw [e3, natP_dec stp i3] at hm
  cases hm)
theorem cfg_parts {f1 f2 f4 : List UInt8} {a b d : Int} (h : [f1, f2, f4].mapM intP = some [a, b, d]) : f1 = Lib.itoa a ∧ f2 = Lib.itoa b ∧ f4 = Lib.itoa d ∧ isI a ∧ isI b ∧ isI d := by
  obtain ⟨e, hi⟩ := intsM_some h
  simp only [List.map_cons, List.map_nil, List.cons.injEq, and_true] at e
  exact ⟨e.1, e.2.1, e.2.2, hi a (by simp), hi b (by simp), hi d (by simp)⟩
theorem cfg_none3 {st : Option Rdg} {t f1 f2 f3 f4 : List UInt8} {a b d : Int} {u : Nat} (h : Lib.split t [32] = [cfW, f1, f2, f3, f4]) (hs : atN st = 0) (hm : [f1, f2, f4].mapM intP = some [a, b, d]) (hu : natP f3 = some u) (hE : cfgE a b u d ≠ 0) : NoG st t := no_cf4 h hs (fun ce sl stp mu i1 i2 i3 i4 hc e => by
  obtain ⟨p1, p2, p4, j1, j2, j4⟩ := cfg_parts hm
  obtain ⟨p3, j3⟩ := natP_some hu
  simp only [List.cons.injEq, and_true] at e
  obtain ⟨e1, e2, e3, e4⟩ := e
  rw [p1] at e1
  rw [p2] at e2
  rw [p3] at e3
  rw [p4] at e4
  rw [itoa_inj j1 i1 e1, itoa_inj j2 i2 e2, dec_inj j3 i3 e3, itoa_inj j4 i4 e4] at hE
  exact hE hc)
theorem cfg_some {st : Option Rdg} {t f1 f2 f3 f4 : List UInt8} {a b d : Int} {u : Nat} (h : Lib.split t [32] = [cfW, f1, f2, f3, f4]) (hs : atN st = 0) (hm : [f1, f2, f4].mapM intP = some [a, b, d]) (hu : natP f3 = some u) (hE : cfgE a b u d = 0) : Goes1 st t ⟨a, b, u, d, [], []⟩ := by
  obtain ⟨p1, p2, p4, j1, j2, j4⟩ := cfg_parts hm
  obtain ⟨p3, j3⟩ := natP_some hu
  exact yes_cf h hs (by rw [p1, p2, p3, p4]) j1 j2 j3 j4 hE
set_option maxRecDepth 100000 in
set_option maxHeartbeats 8000000 in
theorem rd_config (Z : World) (b vb m : Nat) (st : Option Rdg) (t : List UInt8) (r0 : List (List UInt8)) (p : Option Addr) (n c : Nat) (hsp : Lib.split t [32] = cfW :: r0) (hn : n = r0.length) (hf : ∀ f ∈ r0, f.length ≤ 200000000) (W : World) (T : Tb W) (hr : SRd W p r0) (h : SR Z b vb m st W) :
    Calls Tryz.prog 88 #[.pointer (some ⟨b, 0, none⟩), .slice p n c] W (TkQ Z b vb m st t) := by
  obtain ⟨ce, sl, stp, mu, tv, pv, ts, ps, hrs, hnone, hsome⟩ := h
  obtain ⟨a, ha⟩ : ∃ a, a = atN st := ⟨_, rfl⟩
  rw [← ha] at hrs
  have HRS := keepH hrs
  have HSP := keepH hsp
  have HA := keepH ha
  have HN := keepH hn
  have HT := keepH T
  have HNN := keepH hnone
  have c6 : W.cell? ⟨b, 6, none⟩ = _ := cell_of HRS.out.bx 6
  clear hrs hsp ha hn hnone hsome T
  by_cases h1 : a = 0
  · have q1 : ((a : Int) != 0) = false := by rw [h1]; rfl
    by_cases h4 : n = 4
    · have q2 : ((n : Int) != 4) = false := by rw [h4]; rfl
      obtain ⟨f1, f2, f3, f4, e4⟩ : ∃ f1 f2 f3 f4, r0 = [f1, f2, f3, f4] := by
        have hl4 : r0.length = 4 := by rw [← HN.out]; exact h4
        match r0, hl4 with
        | [a, b, c, d], _ => exact ⟨a, b, c, d, rfl⟩
      subst e4
      have HA0 : Hid (atN st = 0) := keepH (HA.out.symm.trans h1)
      have hts : ts = [] ∧ ps = [] := HNN.out (by
        cases st with
        | none => rfl
        | some y => exact absurd HA0.out at0_no)
      obtain ⟨hts, hps⟩ := hts
      subst hts hps
      obtain ⟨sb, so, ep, hlt, hc⟩ : ∃ sb so, p = some ⟨sb, so, none⟩ ∧ sb < W.heap.size ∧ ∀ i f, [f1, f2, f3, f4][i]? = some f → W.cell? ⟨sb, so + i, none⟩ = some (.string (mkS f)) := by
        rcases hr with e | ⟨bk, off, e, h1, h2⟩
        · cases e
        · exact ⟨bk, off, e, h1, h2⟩
      subst ep
      have k1 := hc 0 f1 rfl
      rw [Nat.add_zero] at k1
      have k2 := hc 1 f2 rfl
      have k3 := hc 2 f3 rfl
      have k4 := hc 3 f4 rfl
      have hl1 := hf f1 (by simp)
      have hl2 := hf f2 (by simp)
      have hl3 := hf f3 (by simp)
      have hl4 := hf f4 (by simp)
      have hnums := fun (g : Nat) (w : World) (hb : Below W.heap.size W w) (hg : w.heap[g]? = some (.cells #[.string (mkS f1), .string (mkS f2), .string (mkS f4)] 9 (0, 0))) => nums_z (some ⟨g, 0, none⟩) 3 [f1, f2, f4] (by simp) (fun f hf => by simp at hf; rcases hf with rfl | rfl | rfl <;> assumption) w (HT.out.on hb) (.inr ⟨g, 0, rfl, (Array.getElem?_eq_some_iff.1 hg).1, fun i f hi => by
        rw [Nat.zero_add, cell_of hg]
        match i, hi with
        | 0, hi => simp at hi; subst hi; rfl
        | 1, hi => simp at hi; subst hi; rfl
        | 2, hi => simp at hi; subst hi; rfl⟩)
      have hnat := fun w (hb : Below W.heap.size W w) => natural_any f3 hl3 w (HT.out.on hb)
      obtain ⟨s1, hs1⟩ : ∃ s, s = mkS f1 := ⟨_, rfl⟩
      obtain ⟨s2, hs2⟩ : ∃ s, s = mkS f2 := ⟨_, rfl⟩
      obtain ⟨s3, hs3⟩ : ∃ s, s = mkS f3 := ⟨_, rfl⟩
      obtain ⟨s4, hs4⟩ : ∃ s, s = mkS f4 := ⟨_, rfl⟩
      rw [← hs1, ← hs2, ← hs4] at hnums
      rw [← hs3] at hnat k3
      rw [← hs1] at k1
      rw [← hs2] at k2
      rw [← hs4] at k4
      have HNA := keepH hnat
      have HS0 : Hid ((fun w => w.cell? ⟨sb, so, none⟩ = some (.string s1) ∧ w.cell? ⟨sb, so + 1, none⟩ = some (.string s2) ∧ w.cell? ⟨sb, so + 3, none⟩ = some (.string s4)) W.drew) := keepH ⟨k1, k2, k4⟩
      obtain ⟨wb, hwb⟩ : ∃ wb, wb = (W.alloc (.cells #[.string s1, .string s2, .string s4] 9)).drew := ⟨_, rfl⟩
      have BB : Below W.heap.size W wb := by rw [hwb]; exact below_drewN (below_alloc _ _) 1
      have HNU := keepH (hnums W.heap.size wb BB (by rw [hwb]; exact heap_alloc_new _ _))
      have HSB : Hid (wb.cell? ⟨sb, so, none⟩ = some (.string s1) ∧ wb.cell? ⟨sb, so + 1, none⟩ = some (.string s2) ∧ wb.cell? ⟨sb, so + 3, none⟩ = some (.string s4)) := keepH ⟨cell_below k1 BB, cell_below k2 BB, cell_below k4 BB⟩
      have HK3 := keepH k3
      have HBB := keepH BB
      have HWB := keepH hwb
      have b1 : (1 : Int) < (n : Int) := by omega
      have b2 : (2 : Int) < (n : Int) := by omega
      have b3 : (3 : Int) < (n : Int) := by omega
      have b4 : (0 : Int) < (n : Int) := by omega
      have n1 : 1 < n := by omega
      have n2 : 2 < n := by omega
      have n3 : 3 < n := by omega
      have n4 : 0 < n := by omega
      clear h1 h4 k1 k2 k3 k4 hl1 hl2 hl3 hl4 hnums hnat hs1 hs2 hs3 hs4 hwb BB hlt hc hr hf
      go_enter Tryz.func88, Tryz.ntmps88
      go_upto_region 3 with fail
      refine wp_region_held_drew (S := fun w => w.cell? ⟨sb, so, none⟩ = some (.string s1) ∧ w.cell? ⟨sb, so + 1, none⟩ = some (.string s2) ∧ w.cell? ⟨sb, so + 3, none⟩ = some (.string s4)) (by kernel_rfl) (HS0.out) ?_
      intro hHeld
      refine wpAnyH_take (i := 0) (v := ?_) rfl (by kernel_rfl) (by kernel_rfl) (by kernel_rfl) (fun _ _ _ h => h) (Or.inl ⟨by rfl, ?_⟩) hHeld ?_
      rotate_left
      · intro w hSw
        (try dsimp only at hSw)
        go_simp
        try with_reducible rfl
      (try simp only [Act.put]); (try simp only [List.setIfInBounds_toArray]); (try simp only [List.getElem_toArray]); (repeat (first | simp only [List.getElem_cons_succ] | simp only [List.getElem_cons_zero])); (repeat (first | simp only [List.set_cons_succ] | simp only [List.set_cons_zero]))
      refine wpAnyH_take (i := 1) (v := ?_) rfl (by kernel_rfl) (by kernel_rfl) (by kernel_rfl) (fun _ _ _ h => h) (Or.inl ⟨by rfl, ?_⟩) hHeld ?_
      rotate_left
      · intro w hSw
        (try dsimp only at hSw)
        go_simp
        try with_reducible rfl
      (try simp only [Act.put]); (try simp only [List.setIfInBounds_toArray]); (try simp only [List.getElem_toArray]); (repeat (first | simp only [List.getElem_cons_succ] | simp only [List.getElem_cons_zero])); (repeat (first | simp only [List.set_cons_succ] | simp only [List.set_cons_zero]))
      refine wpAnyH_take (i := 2) (v := ?_) rfl (by kernel_rfl) (by kernel_rfl) (by kernel_rfl) (fun _ _ _ h => h) (Or.inl ⟨by rfl, ?_⟩) hHeld ?_
      rotate_left
      · intro w hSw
        (try dsimp only at hSw)
        have x1 := hSw.1
        have x2 := hSw.2.1
        have x4 := hSw.2.2
        go_simp
        try with_reducible rfl
      (try simp only [Act.put]); (try simp only [List.setIfInBounds_toArray]); (try simp only [List.getElem_toArray]); (repeat (first | simp only [List.getElem_cons_succ] | simp only [List.getElem_cons_zero])); (repeat (first | simp only [List.set_cons_succ] | simp only [List.set_cons_zero]))
      refine wpAnyH_take (i := 3) (v := ?_) rfl (by kernel_rfl) (by kernel_rfl) (by kernel_rfl) (fun _ _ _ h => h) (Or.inl ⟨by rfl, ?_⟩) hHeld ?_
      rotate_left
      · intro w hSw
        (try dsimp only at hSw)
        go_simp
        try with_reducible rfl
      (try simp only [Act.put]); (try simp only [List.setIfInBounds_toArray]); (try simp only [List.getElem_toArray]); (repeat (first | simp only [List.getElem_cons_succ] | simp only [List.getElem_cons_zero])); (repeat (first | simp only [List.set_cons_succ] | simp only [List.set_cons_zero]))
      refine wpAnyH_take (i := 4) (v := ?_) rfl (by kernel_rfl) (by kernel_rfl) (by kernel_rfl) (fun _ _ _ h => h) (Or.inl ⟨by rfl, ?_⟩) hHeld ?_
      rotate_left
      · intro w hSw
        (try dsimp only at hSw)
        go_simp
        try with_reducible rfl
      (try simp only [Act.put]); (try simp only [List.setIfInBounds_toArray]); (try simp only [List.getElem_toArray]); (repeat (first | simp only [List.getElem_cons_succ] | simp only [List.getElem_cons_zero])); (repeat (first | simp only [List.set_cons_succ] | simp only [List.set_cons_zero]))
      refine wpAnyH_take (i := 5) (v := ?_) rfl (by kernel_rfl) (by kernel_rfl) (by kernel_rfl) (fun _ _ _ h => h) (Or.inl ⟨by rfl, ?_⟩) hHeld ?_
      rotate_left
      · intro w hSw
        (try dsimp only at hSw)
        have x1 := hSw.1
        have x2 := hSw.2.1
        have x4 := hSw.2.2
        go_simp
        try with_reducible rfl
      (try simp only [Act.put]); (try simp only [List.setIfInBounds_toArray]); (try simp only [List.getElem_toArray]); (repeat (first | simp only [List.getElem_cons_succ] | simp only [List.getElem_cons_zero])); (repeat (first | simp only [List.set_cons_succ] | simp only [List.set_cons_zero]))
      refine wpAnyH_take (i := 6) (v := ?_) rfl (by kernel_rfl) (by kernel_rfl) (by kernel_rfl) (fun _ _ _ h => h) (Or.inl ⟨by rfl, ?_⟩) hHeld ?_
      rotate_left
      · intro w hSw
        (try dsimp only at hSw)
        go_simp
        try with_reducible rfl
      (try simp only [Act.put]); (try simp only [List.setIfInBounds_toArray]); (try simp only [List.getElem_toArray]); (repeat (first | simp only [List.getElem_cons_succ] | simp only [List.getElem_cons_zero])); (repeat (first | simp only [List.set_cons_succ] | simp only [List.set_cons_zero]))
      refine wpAnyH_take (i := 7) (v := ?_) rfl (by kernel_rfl) (by kernel_rfl) (by kernel_rfl) (fun _ _ _ h => h) (Or.inl ⟨by rfl, ?_⟩) hHeld ?_
      rotate_left
      · intro w hSw
        (try dsimp only at hSw)
        go_simp
        try with_reducible rfl
      (try simp only [Act.put]); (try simp only [List.setIfInBounds_toArray]); (try simp only [List.getElem_toArray]); (repeat (first | simp only [List.getElem_cons_succ] | simp only [List.getElem_cons_zero])); (repeat (first | simp only [List.set_cons_succ] | simp only [List.set_cons_zero]))
      refine wpAnyH_take (i := 8) (v := ?_) rfl (by kernel_rfl) (by kernel_rfl) (by kernel_rfl) (fun _ _ _ h => h) (Or.inl ⟨by rfl, ?_⟩) hHeld ?_
      rotate_left
      · intro w hSw
        (try dsimp only at hSw)
        have x1 := hSw.1
        have x2 := hSw.2.1
        have x4 := hSw.2.2
        go_simp
        try with_reducible rfl
      (try simp only [Act.put]); (try simp only [List.setIfInBounds_toArray]); (try simp only [List.getElem_toArray]); (repeat (first | simp only [List.getElem_cons_succ] | simp only [List.getElem_cons_zero])); (repeat (first | simp only [List.set_cons_succ] | simp only [List.set_cons_zero]))
      refine wpAnyH_ready (rs := [9]) (by kernel_rfl) (by simp) ?_
      refine AllReadyH.cons rfl (fun KK hKK => ?_) AllReadyH.nil
      go_simp
      refine hKK.out _ _ ?_ (fun hHeld => ?_)
      · (rw [← HWB.out]; exact HSB.out)
      clear hKK KK
      (try simp only [Act.put]); (try simp only [List.setIfInBounds_toArray]); (try simp only [List.getElem_toArray]); (repeat (first | simp only [List.getElem_cons_succ] | simp only [List.getElem_cons_zero])); (repeat (first | simp only [List.set_cons_succ] | simp only [List.set_cons_zero]))
      refine wpAnyH_ready (rs := [10]) (by kernel_rfl) (by simp) ?_
      refine AllReadyH.cons rfl (fun KK hKK => ?_) AllReadyH.nil
      go_simp
      rw [← HWB.out]
      refine HNU.out.mono ?_
      rintro e w2 hnm
      have hbb : Below wb.heap.size wb w2 := by (rcases hnm with ⟨us, v, _, _, hst⟩ | ⟨_, _, B2⟩; exact hst.bel; exact B2)
      have hcc := And.intro (cell_below HSB.out.1 hbb) (And.intro (cell_below HSB.out.2.1 hbb) (cell_below HSB.out.2.2 hbb))
      clear hbb
      obtain ⟨ev, rfl, hn2⟩ := nums_v hnm
      obtain ⟨xv, okv, rfl, hn3⟩ := nums_t hn2
      have HNM := keepH hn3
      clear hnm hn2 hn3
      refine hKK.out _ _ ?_ (fun hHeld => ?_)
      · exact hcc
      clear hKK KK
      (try simp only [Act.put]); (try simp only [List.setIfInBounds_toArray]); (try simp only [List.getElem_toArray]); (repeat (first | simp only [List.getElem_cons_succ] | simp only [List.getElem_cons_zero])); (repeat (first | simp only [List.set_cons_succ] | simp only [List.set_cons_zero]))
      refine wpAnyH_take (i := 11) (v := ?_) rfl (by kernel_rfl) (by kernel_rfl) (by kernel_rfl) (fun _ _ _ h => h) (Or.inl ⟨by rfl, ?_⟩) hHeld ?_
      rotate_left
      · intro w hSw
        (try dsimp only at hSw)
        go_simp
        try with_reducible rfl
      (try simp only [Act.put]); (try simp only [List.setIfInBounds_toArray]); (try simp only [List.getElem_toArray]); (repeat (first | simp only [List.getElem_cons_succ] | simp only [List.getElem_cons_zero])); (repeat (first | simp only [List.set_cons_succ] | simp only [List.set_cons_zero]))
      refine wpAnyH_take (i := 12) (v := ?_) rfl (by kernel_rfl) (by kernel_rfl) (by kernel_rfl) (fun _ _ _ h => h) (Or.inl ⟨by rfl, ?_⟩) hHeld ?_
      rotate_left
      · intro w hSw
        (try dsimp only at hSw)
        go_simp
        try with_reducible rfl
      (try simp only [Act.put]); (try simp only [List.setIfInBounds_toArray]); (try simp only [List.getElem_toArray]); (repeat (first | simp only [List.getElem_cons_succ] | simp only [List.getElem_cons_zero])); (repeat (first | simp only [List.set_cons_succ] | simp only [List.set_cons_zero]))
      refine wpAnyH_take (i := 13) (v := ?_) rfl (by kernel_rfl) (by kernel_rfl) (by kernel_rfl) (fun _ _ _ h => h) (Or.inl ⟨by rfl, ?_⟩) hHeld ?_
      rotate_left
      · intro w hSw
        (try dsimp only at hSw)
        go_simp
        try with_reducible rfl
      (try simp only [Act.put]); (try simp only [List.setIfInBounds_toArray]); (try simp only [List.getElem_toArray]); (repeat (first | simp only [List.getElem_cons_succ] | simp only [List.getElem_cons_zero])); (repeat (first | simp only [List.set_cons_succ] | simp only [List.set_cons_zero]))
      refine wpAnyH_take (i := 14) (v := ?_) rfl (by kernel_rfl) (by kernel_rfl) (by kernel_rfl) (fun _ _ _ h => h) (Or.inl ⟨by rfl, ?_⟩) hHeld ?_
      rotate_left
      · intro w hSw
        (try dsimp only at hSw)
        go_simp
        try with_reducible rfl
      (try simp only [Act.put]); (try simp only [List.setIfInBounds_toArray]); (try simp only [List.getElem_toArray]); (repeat (first | simp only [List.getElem_cons_succ] | simp only [List.getElem_cons_zero])); (repeat (first | simp only [List.set_cons_succ] | simp only [List.set_cons_zero]))
      refine wpAnyH_take (i := 15) (v := ?_) rfl (by kernel_rfl) (by kernel_rfl) (by kernel_rfl) (fun _ _ _ h => h) (Or.inl ⟨by rfl, ?_⟩) hHeld ?_
      rotate_left
      · intro w hSw
        (try dsimp only at hSw)
        go_simp
        try with_reducible rfl
      (try simp only [Act.put]); (try simp only [List.setIfInBounds_toArray]); (try simp only [List.getElem_toArray]); (repeat (first | simp only [List.getElem_cons_succ] | simp only [List.getElem_cons_zero])); (repeat (first | simp only [List.set_cons_succ] | simp only [List.set_cons_zero]))
      refine wpAnyH_done (by kernel_rfl) ?_ _
      go_simp
      clear hHeld c6
      rcases HNM.out with ⟨rfl, us, hm, hst⟩ | ⟨rfl, hm, B2⟩
      · have hul := mapM_z_len hm
        obtain ⟨a1, a2, a4, g, gc, rfl, rfl, i0, i1, i2, hg1, hg2⟩ := three_ints hst (by rw [hul]; rfl)
        have HM := keepH hm
        have BW : Below W.heap.size W w2 := below_chain HBB.out hst.bel
        have HR2 := keepH (HRS.out.on BW)
        have HN2 := keepH (HNA.out w2 BW)
        have k3 := cell_below HK3.out BW
        have HGN : Hid (wb.heap.size ≤ g) := keepH hg1
        have HG2 := keepH hg2
        have HI : Hid (w2.cell? ⟨g, 0, none⟩ = some (.int .i64 a1) ∧ w2.cell? ⟨g, 1, none⟩ = some (.int .i64 a2) ∧ w2.cell? ⟨g, 2, none⟩ = some (.int .i64 a4)) := keepH ⟨i0, i1, i2⟩
        clear hst hul hm i0 i1 i2 hg1 hg2 BW
        go_wp2_with fail
        refine HN2.out.mono ?_
        rintro e w3 ⟨vv, rfl, hvv, B3⟩
        have HR3 := keepH (HR2.out.on B3)
        have HI3 : Hid (w3.cell? ⟨g, 0, none⟩ = some (.int .i64 a1) ∧ w3.cell? ⟨g, 1, none⟩ = some (.int .i64 a2) ∧ w3.cell? ⟨g, 2, none⟩ = some (.int .i64 a4)) := keepH ⟨cell_below HI.out.1 B3, cell_below HI.out.2.1 B3, cell_below HI.out.2.2 B3⟩
        have HGS : Hid (g ≠ b) := keepH (by
          have h1 := HRS.out.bx
          have h2 := (Array.getElem?_eq_some_iff.1 h1).1
          have h3 := HBB.out.size
          have h4 := HGN.out
          omega)
        clear B3 k3 HN2 HG2 HI HR2
        rcases hvv with ⟨u, hu, rfl⟩ | ⟨hu, u, rfl⟩
        · have HU := keepH hu
          have d6 : w3.cell? ⟨b, 6, none⟩ = _ := cell_of HR3.out.bx 6
          have f6 := free_of HR3.out.bx 6
          have HR4 := keepH (HR3.out.setA 1)
          obtain ⟨w4, hw4⟩ : ∃ w4, w4 = w3.setCell ⟨b, 6, none⟩ (.int .i64 ((1 : Nat) : Int)) := ⟨_, rfl⟩
          have HI4 : Hid (w4.cell? ⟨g, 0, none⟩ = some (.int .i64 a1) ∧ w4.cell? ⟨g, 1, none⟩ = some (.int .i64 a2) ∧ w4.cell? ⟨g, 2, none⟩ = some (.int .i64 a4)) := keepH (by
            have hk : w4.heap[g]? = w3.heap[g]? := by rw [hw4]; exact Below.heap_setCell _ _ _ _ HGS.out
            have ek : ∀ j, w4.cell? ⟨g, j, none⟩ = w3.cell? ⟨g, j, none⟩ := fun j => World.cell?_of_block hk
            rw [ek, ek, ek]
            exact HI3.out)
          rw [← hw4] at HR4
          have HW4 : Hid (w4 = w3.setCell ⟨b, 6, none⟩ (.int .i64 1)) := keepH hw4
          have HR5 := keepH ((HR4.out.on (below_drewN (Below.refl _ _) 1)).setC a1 a2 u a4)
          obtain ⟨w5, hw5⟩ : ∃ w5, w5 = w4.drew.setCells b 0 [.int .i64 a1, .int .i64 a2, .int .u64 ((u : Nat) : Int), .int .i64 a4] := ⟨_, rfl⟩
          have HR5 : Hid (RS Z b vb m a1 a2 u a4 tv pv 1 tv pv [] [] w5) := keepH (by rw [hw5]; exact HR5.out)
          have HI5 : Hid (w5.cell? ⟨g, 0, none⟩ = some (.int .i64 a1) ∧ w5.cell? ⟨g, 1, none⟩ = some (.int .i64 a2) ∧ w5.cell? ⟨g, 2, none⟩ = some (.int .i64 a4)) := keepH (by
            have hk : w5.heap[g]? = w4.heap[g]? := by
              rw [hw5]
              exact (Below.heap_setCell _ _ _ _ HGS.out).trans ((Below.heap_setCell _ _ _ _ HGS.out).trans ((Below.heap_setCell _ _ _ _ HGS.out).trans (Below.heap_setCell _ _ _ _ HGS.out)))
            have ek : ∀ j, w5.cell? ⟨g, j, none⟩ = w4.cell? ⟨g, j, none⟩ := fun j => World.cell?_of_block hk
            rw [ek, ek, ek]
            exact HI4.out)
          have HTH : Hid (w4.drew.there b 0 4) := keepH (fun j hj => ⟨by rw [show w4.drew.cell? ⟨b, 0 + j, none⟩ = w4.cell? ⟨b, 0 + j, none⟩ from rfl, cell_of HR4.out.bx]; match j, hj with | 0, _ => rfl | 1, _ => rfl | 2, _ => rfl | 3, _ => rfl, free_of (show w4.drew.heap[b]? = _ from HR4.out.bx) _⟩)
          have HW5 := keepH hw5
          have HNW := keepH (sNew_any a1 a2 u a4 w5)
          obtain ⟨E, hE⟩ : ∃ E, E = cfgE a1 a2 u a4 := ⟨_, rfl⟩
          rw [← hE] at HNW
          have HE := keepH hE
          have HS4 : Hid ((fun w => w.cell? ⟨g, 0, none⟩ = some (.int .i64 a1) ∧ w.cell? ⟨g, 1, none⟩ = some (.int .i64 a2) ∧ w.cell? ⟨g, 2, none⟩ = some (.int .i64 a4)) w4.drew) := keepH HI4.out
          clear hu hw4 hw5 hE
          go_upto_region 10 with fail
          rw [← HW4.out]
          clear d6 f6 HW4
          refine wp_region_held_drew (S := fun w => w.cell? ⟨g, 0, none⟩ = some (.int .i64 a1) ∧ w.cell? ⟨g, 1, none⟩ = some (.int .i64 a2) ∧ w.cell? ⟨g, 2, none⟩ = some (.int .i64 a4)) (by kernel_rfl) (HS4.out) ?_
          intro hHeld
          refine wpAnyH_take (i := 0) (v := ?_) rfl (by kernel_rfl) (by kernel_rfl) (by kernel_rfl) (fun _ _ _ h => h) (Or.inl ⟨by rfl, ?_⟩) hHeld ?_
          rotate_left
          · intro w hSw
            (try dsimp only at hSw)
            go_simp
            try with_reducible rfl
          (try simp only [Act.put]); (try simp only [List.setIfInBounds_toArray]); (try simp only [List.getElem_toArray]); (repeat (first | simp only [List.getElem_cons_succ] | simp only [List.getElem_cons_zero])); (repeat (first | simp only [List.set_cons_succ] | simp only [List.set_cons_zero]))
          refine wpAnyH_take (i := 1) (v := ?_) rfl (by kernel_rfl) (by kernel_rfl) (by kernel_rfl) (fun _ _ _ h => h) (Or.inl ⟨by rfl, ?_⟩) hHeld ?_
          rotate_left
          · intro w hSw
            (try dsimp only at hSw)
            go_simp
            try with_reducible rfl
          (try simp only [Act.put]); (try simp only [List.setIfInBounds_toArray]); (try simp only [List.getElem_toArray]); (repeat (first | simp only [List.getElem_cons_succ] | simp only [List.getElem_cons_zero])); (repeat (first | simp only [List.set_cons_succ] | simp only [List.set_cons_zero]))
          refine wpAnyH_take (i := 2) (v := ?_) rfl (by kernel_rfl) (by kernel_rfl) (by kernel_rfl) (fun _ _ _ h => h) (Or.inl ⟨by rfl, ?_⟩) hHeld ?_
          rotate_left
          · intro w hSw
            (try dsimp only at hSw)
            go_simp
            try with_reducible rfl
          (try simp only [Act.put]); (try simp only [List.setIfInBounds_toArray]); (try simp only [List.getElem_toArray]); (repeat (first | simp only [List.getElem_cons_succ] | simp only [List.getElem_cons_zero])); (repeat (first | simp only [List.set_cons_succ] | simp only [List.set_cons_zero]))
          refine wpAnyH_take (i := 3) (v := ?_) rfl (by kernel_rfl) (by kernel_rfl) (by kernel_rfl) (fun _ _ _ h => h) (Or.inl ⟨by rfl, ?_⟩) hHeld ?_
          rotate_left
          · intro w hSw
            (try dsimp only at hSw)
            have x1 := hSw.1
            have x2 := hSw.2.1
            have x4 := hSw.2.2
            go_simp
            try with_reducible rfl
          (try simp only [Act.put]); (try simp only [List.setIfInBounds_toArray]); (try simp only [List.getElem_toArray]); (repeat (first | simp only [List.getElem_cons_succ] | simp only [List.getElem_cons_zero])); (repeat (first | simp only [List.set_cons_succ] | simp only [List.set_cons_zero]))
          refine wpAnyH_take (i := 4) (v := ?_) rfl (by kernel_rfl) (by kernel_rfl) (by kernel_rfl) (fun _ _ _ h => h) (Or.inl ⟨by rfl, ?_⟩) hHeld ?_
          rotate_left
          · intro w hSw
            (try dsimp only at hSw)
            go_simp
            try with_reducible rfl
          (try simp only [Act.put]); (try simp only [List.setIfInBounds_toArray]); (try simp only [List.getElem_toArray]); (repeat (first | simp only [List.getElem_cons_succ] | simp only [List.getElem_cons_zero])); (repeat (first | simp only [List.set_cons_succ] | simp only [List.set_cons_zero]))
          refine wpAnyH_take (i := 5) (v := ?_) rfl (by kernel_rfl) (by kernel_rfl) (by kernel_rfl) (fun _ _ _ h => h) (Or.inl ⟨by rfl, ?_⟩) hHeld ?_
          rotate_left
          · intro w hSw
            (try dsimp only at hSw)
            go_simp
            try with_reducible rfl
          (try simp only [Act.put]); (try simp only [List.setIfInBounds_toArray]); (try simp only [List.getElem_toArray]); (repeat (first | simp only [List.getElem_cons_succ] | simp only [List.getElem_cons_zero])); (repeat (first | simp only [List.set_cons_succ] | simp only [List.set_cons_zero]))
          refine wpAnyH_take (i := 6) (v := ?_) rfl (by kernel_rfl) (by kernel_rfl) (by kernel_rfl) (fun _ _ _ h => h) (Or.inl ⟨by rfl, ?_⟩) hHeld ?_
          rotate_left
          · intro w hSw
            (try dsimp only at hSw)
            have x1 := hSw.1
            have x2 := hSw.2.1
            have x4 := hSw.2.2
            go_simp
            try with_reducible rfl
          (try simp only [Act.put]); (try simp only [List.setIfInBounds_toArray]); (try simp only [List.getElem_toArray]); (repeat (first | simp only [List.getElem_cons_succ] | simp only [List.getElem_cons_zero])); (repeat (first | simp only [List.set_cons_succ] | simp only [List.set_cons_zero]))
          refine wpAnyH_take (i := 7) (v := ?_) rfl (by kernel_rfl) (by kernel_rfl) (by kernel_rfl) (fun _ _ _ h => h) (Or.inl ⟨by rfl, ?_⟩) hHeld ?_
          rotate_left
          · intro w hSw
            (try dsimp only at hSw)
            go_simp
            try with_reducible rfl
          (try simp only [Act.put]); (try simp only [List.setIfInBounds_toArray]); (try simp only [List.getElem_toArray]); (repeat (first | simp only [List.getElem_cons_succ] | simp only [List.getElem_cons_zero])); (repeat (first | simp only [List.set_cons_succ] | simp only [List.set_cons_zero]))
          refine wpAnyH_take (i := 8) (v := ?_) rfl (by kernel_rfl) (by kernel_rfl) (by kernel_rfl) (fun _ _ _ h => h) (Or.inl ⟨by rfl, ?_⟩) hHeld ?_
          rotate_left
          · intro w hSw
            (try dsimp only at hSw)
            go_simp
            try with_reducible rfl
          (try simp only [Act.put]); (try simp only [List.setIfInBounds_toArray]); (try simp only [List.getElem_toArray]); (repeat (first | simp only [List.getElem_cons_succ] | simp only [List.getElem_cons_zero])); (repeat (first | simp only [List.set_cons_succ] | simp only [List.set_cons_zero]))
          refine wpAnyH_take (i := 9) (v := ?_) rfl (by kernel_rfl) (by kernel_rfl) (by kernel_rfl) (fun _ _ _ h => h) (Or.inl ⟨by rfl, ?_⟩) hHeld ?_
          rotate_left
          · intro w hSw
            (try dsimp only at hSw)
            go_simp
            try with_reducible rfl
          (try simp only [Act.put]); (try simp only [List.setIfInBounds_toArray]); (try simp only [List.getElem_toArray]); (repeat (first | simp only [List.getElem_cons_succ] | simp only [List.getElem_cons_zero])); (repeat (first | simp only [List.set_cons_succ] | simp only [List.set_cons_zero]))
          refine wpAnyH_take (i := 10) (v := ?_) rfl (by kernel_rfl) (by kernel_rfl) (by kernel_rfl) (fun _ _ _ h => h) (Or.inl ⟨by rfl, ?_⟩) hHeld ?_
          rotate_left
          · intro w hSw
            (try dsimp only at hSw)
            have x1 := hSw.1
            have x2 := hSw.2.1
            have x4 := hSw.2.2
            go_simp
            try with_reducible rfl
          (try simp only [Act.put]); (try simp only [List.setIfInBounds_toArray]); (try simp only [List.getElem_toArray]); (repeat (first | simp only [List.getElem_cons_succ] | simp only [List.getElem_cons_zero])); (repeat (first | simp only [List.set_cons_succ] | simp only [List.set_cons_zero]))
          refine wpAnyH_take (i := 11) (v := ?_) rfl (by kernel_rfl) (by kernel_rfl) (by kernel_rfl) (fun _ _ _ h => h) (Or.inl ⟨by rfl, ?_⟩) hHeld ?_
          rotate_left
          · intro w hSw
            (try dsimp only at hSw)
            go_simp
            try with_reducible rfl
          (try simp only [Act.put]); (try simp only [List.setIfInBounds_toArray]); (try simp only [List.getElem_toArray]); (repeat (first | simp only [List.getElem_cons_succ] | simp only [List.getElem_cons_zero])); (repeat (first | simp only [List.set_cons_succ] | simp only [List.set_cons_zero]))
          refine wpAnyH_take (i := 12) (v := ?_) rfl (by kernel_rfl) (by kernel_rfl) (by kernel_rfl) (fun _ _ _ h => h) (Or.inl ⟨by rfl, ?_⟩) hHeld ?_
          rotate_left
          · intro w hSw
            (try dsimp only at hSw)
            go_simp
            try with_reducible rfl
          (try simp only [Act.put]); (try simp only [List.setIfInBounds_toArray]); (try simp only [List.getElem_toArray]); (repeat (first | simp only [List.getElem_cons_succ] | simp only [List.getElem_cons_zero])); (repeat (first | simp only [List.set_cons_succ] | simp only [List.set_cons_zero]))
          refine wpAnyH_take (i := 13) (v := ?_) rfl (by kernel_rfl) (by kernel_rfl) (by kernel_rfl) (fun _ _ _ h => h) (Or.inl ⟨by rfl, ?_⟩) hHeld ?_
          rotate_left
          · intro w hSw
            (try dsimp only at hSw)
            go_simp
            try with_reducible rfl
          (try simp only [Act.put]); (try simp only [List.setIfInBounds_toArray]); (try simp only [List.getElem_toArray]); (repeat (first | simp only [List.getElem_cons_succ] | simp only [List.getElem_cons_zero])); (repeat (first | simp only [List.set_cons_succ] | simp only [List.set_cons_zero]))
          refine wpAnyH_take (i := 14) (v := ?_) rfl (by kernel_rfl) (by kernel_rfl) (by kernel_rfl) (fun _ _ _ h => h) (Or.inl ⟨by rfl, ?_⟩) hHeld ?_
          rotate_left
          · intro w hSw
            (try dsimp only at hSw)
            go_simp
            try with_reducible rfl
          (try simp only [Act.put]); (try simp only [List.setIfInBounds_toArray]); (try simp only [List.getElem_toArray]); (repeat (first | simp only [List.getElem_cons_succ] | simp only [List.getElem_cons_zero])); (repeat (first | simp only [List.set_cons_succ] | simp only [List.set_cons_zero]))
          refine wpAnyH_ready (rs := [15]) (by kernel_rfl) (by simp) ?_
          refine AllReadyH.cons rfl (fun KK hKK => ?_) AllReadyH.nil
          refine step_store_mid rfl 42 (.tmp 62) (.tmp 59) rfl b 0 #[.int .i64 a1, .int .i64 a2, .int .u64 ((u : Nat) : Int), .int .i64 a4] rfl rfl HTH.out (by kernel_rfl) (by kernel_rfl) ?_
          refine hKK.out _ _ ?_ (fun hHeld => ?_)
          · (rw [show w4.drew.setCells b 0 #[.int .i64 a1, .int .i64 a2, .int .u64 ((u : Nat) : Int), .int .i64 a4].toList = w5 from HW5.out.symm]; exact HI5.out)
          clear hKK KK
          (try simp only [Act.put]); (try simp only [List.setIfInBounds_toArray]); (try simp only [List.getElem_toArray]); (repeat (first | simp only [List.getElem_cons_succ] | simp only [List.getElem_cons_zero])); (repeat (first | simp only [List.set_cons_succ] | simp only [List.set_cons_zero]))
          refine wpAnyH_done (by kernel_rfl) ?_ _
          go_simp
          clear hHeld
          rw [show w4.drew.setCells b 0 #[.int .i64 a1, .int .i64 a2, .int .u64 ((u : Nat) : Int), .int .i64 a4].toList = w5 from HW5.out.symm]
          have y0 : w5.cell? ⟨b, 0, none⟩ = _ := cell_of HR5.out.bx 0
          have y1 : w5.cell? ⟨b, 1, none⟩ = _ := cell_of HR5.out.bx 1
          have y2 : w5.cell? ⟨b, 2, none⟩ = _ := cell_of HR5.out.bx 2
          have y3 : w5.cell? ⟨b, 3, none⟩ = _ := cell_of HR5.out.bx 3
          go_wp2_with fail
          refine HNW.out.mono ?_
          rintro e w6 ⟨⟨p6, rfl⟩, B6⟩
          have HR6 := keepH (HR5.out.on B6)
          clear B6 y0 y1 y2 y3
          by_cases hE0 : E = 0
          · have z1 : ((E : Int) == 0) = true := by rw [hE0]; rfl
            have HG : Hid (Goes1 st t ⟨a1, a2, u, a4, [], []⟩) := keepH (cfg_some HSP.out HA0.out HM.out HU.out (by rw [← HE.out]; exact hE0))
            clear hE0
            go_wp2_with fail
            go_ret
            exact ⟨true, rfl, HR6.out.bel, fun _ => ⟨_, HG.out, a1, a2, u, a4, tv, pv, [], [], HR6.out, fun e => (nomatch e), fun x e => by injection e with e; exact e.symm⟩, fun e => (nomatch e)⟩
          · have z1 : ((E : Int) == 0) = false := by simp; omega
            have HNG : Hid (NoG st t) := keepH (cfg_none3 HSP.out HA0.out HM.out HU.out (by rw [← HE.out]; exact hE0))
            clear hE0
            go_wp2_with fail
            go_ret
            exact ⟨false, rfl, HR6.out.bel, fun e => (nomatch e), fun _ => HNG.out⟩
        · have HNG : Hid (NoG st t) := keepH (cfg_none2 HSP.out HA0.out hu)
          clear hu
          go_wp2_with fail
          go_ret
          exact ⟨false, rfl, HR3.out.bel, fun e => (nomatch e), fun _ => HNG.out⟩
      · have HNG : Hid (NoG st t) := keepH (cfg_none HSP.out HA0.out hm)
        have HR2 := keepH (HRS.out.on (below_chain HBB.out B2))
        clear hm B2
        go_wp2_with fail
        go_ret
        exact ⟨false, rfl, HR2.out.bel, fun e => (nomatch e), fun _ => HNG.out⟩
    · have q2 : ((n : Int) != 4) = true := by simp; omega
      have HNG : Hid (NoG st t) := keepH (no_cf4 HSP.out (HA.out.symm.trans h1) (fun ce sl stp mu _ _ _ _ _ e => h4 (by rw [HN.out, e]; rfl)))
      clear h1 h4
      go_enter Tryz.func88, Tryz.ntmps88
      go_wp2_with fail
      go_ret
      exact ⟨false, rfl, HRS.out.bel, fun e => (nomatch e), fun _ => HNG.out⟩
  · have q1 : ((a : Int) != 0) = true := by simp; omega
    have HNG : Hid (NoG st t) := keepH (no_cf HSP.out (fun e => h1 (HA.out.trans e)))
    clear h1
    go_enter Tryz.func88, Tryz.ntmps88
    go_wp2_with fail
    go_ret
    exact ⟨false, rfl, HRS.out.bel, fun e => (nomatch e), fun _ => HNG.out⟩
end Go.Proofs.YtmmaniolaljjlaaGreatDoor
