/- VcasStamps: what is known of both looks, and the walk. -/
import Derived.Test.YtadbgmcfjemkeaaIb
import Derived.Deep.RegionHeld3
import Derived.BigRegion
namespace Go.Proofs.Ytadbgmcfjemkeaa
open Go.RowKit Go.Shelf
set_option linter.unusedVariables false

/-- Picks that come in, with the room behind them. -/
def PkAt (W : World) (p : Option Addr) (c : Nat) (l : List Int) : Prop := IReads W p l ∧ ((p = none ∧ l = [] ∧ c = 0) ∨ ∃ a, p = some a ∧ l.length ≤ c)
theorem rem_cut (cut : Int) (len : Nat) (hl : len ≤ 1048576) : ∃ z n : Nat, IntKind.u64.wrap cut = (z : Int) ∧ n ≤ len ∧ ((z : Int).tmod ((len + 1 : Nat) : Int)) = (n : Int) := by
  have h : 0 ≤ IntKind.u64.wrap cut := by rw [IntKind.wrap_u64]; omega
  obtain ⟨z, hz⟩ : ∃ z : Nat, IntKind.u64.wrap cut = (z : Int) := ⟨(IntKind.u64.wrap cut).toNat, by omega⟩
  refine ⟨z, z % (len + 1), hz, by have := Nat.mod_lt z (show 0 < len + 1 by omega); omega, ?_⟩
  rw [Int.tmod_eq_emod_of_nonneg (by omega)]
  omega
theorem IReads.take {W : World} {p : Option Addr} {l : List Int} (h : IReads W p l) (n : Nat) : IReads W p (l.take n) := by
  rcases h with rfl | ⟨bk, off, e, hb, h⟩
  · exact .inl (by simp)
  · exact .inr ⟨bk, off, e, hb, fun i x hx => h i x (by rw [List.getElem?_take] at hx; split at hx; exact hx; simp at hx)⟩
theorem IReads.drop {W : World} {a : Addr} {l : List Int} (h : IReads W (some a) l) (n : Nat) : IReads W (some (a.add n)) (l.drop n) := by
  rcases h with rfl | ⟨bk, off, e, hb, h⟩
  · exact .inl (by simp)
  · simp at e
    subst e
    refine .inr ⟨bk, off + n, ?_, hb, fun i x hx => ?_⟩
    · unfold Addr.add; split <;> simp_all
    · rw [Nat.add_assoc]; exact h (n + i) x (by rw [List.getElem?_drop] at hx; exact hx)
theorem run_split {P : Type} (κ : Kind P) (most T : Nat) (cl : Nat → Nat) (c : Cfg P) (picks : List Int) (n : Nat) : c.run κ most T cl (picks.take picks.length) = (c.run κ most T cl (picks.take n)).run κ most T cl (picks.drop n) := by
  unfold Cfg.run
  rw [← List.foldl_append, List.take_append_drop, List.take_length]
theorem run_part (pt : Option Addr) (a : Addr) (ct cp : Nat) (L : List ThrV) (picks : List Int) (n : Nat) (W0 W3 : World) (m b : Nat) (F : Nat → Prop) (l : List Acc)
    (hC : Chg (fun _ => False) W0 W3) (hT : ThsAt W0 pt L) (hP : IReads W0 (some a) picks) (hnl : n ≤ picks.length) (hln : picks.length ≤ 1048576) (hm : IsMem W3 m b) (hb : Bank W3 F b 16384 5 [0, 1, 0, 0, 0] l) (hll : l.length ≤ 16) (hF : ∀ k, F k → W0.heap.size ≤ k) (hmW : W0.heap.size ≤ m) (nm : ¬ F m) (hk : ∀ t ∈ L, ∀ k ∈ t.ks, 0 ≤ k.kind ∧ k.kind ≤ 3) (h64 : L.length ≤ 64) (h4k : ∀ t ∈ L, t.ks.length ≤ 4096) :
    ∀ w', Chg (fun _ => False) W3 w' → Calls Try.prog 10 #[.pointer (some ⟨m, 0, none⟩), .int .u64 1, .agg #[.slice pt L.length ct, .slice (some a) n cp]] w' fun e W' => ∃ sv r R cl vb pv c0 Z qv, e = .returned (.tuple #[sv, .pointer (some ⟨r, 0, none⟩)]) ∧ R.map ThrV.ks = L.map (fun t => t.ks.map CallV.pl) ∧ RE W0 m b R picks n 5 [0, 1, 0, 0, 0] (fun _ => []) W' sv r cl vb pv c0 Z qv := by
  intro w' cw
  have el : (picks.take n).length = n := by rw [List.length_take]; omega
  have hl : ∀ (i : Nat) (x : Int), (picks.take n)[i]? = some x → picks[i]? = some x := fun i x h => by
    rw [List.getElem?_take] at h
    split at h
    · exact h
    · simp at h
  have q := v_run pt (some a) ct cp L picks (picks.take n) W0 w' m b 5 F [0, 1, 0, 0, 0] l (fun _ => []) (hC.falls cw) hT (hP.take n) hl (by omega) (hm.chg cw (fun x => x)) (hb.chg cw (fun _ _ x => x)) hll hF hmW nm hk h64 h4k GI.first
  rw [el] at q
  exact q
theorem run_part0 (pt : Option Addr) (ct cp : Nat) (L : List ThrV) (picks : List Int) (n : Nat) (W0 W3 : World) (m b : Nat) (F : Nat → Prop) (l : List Acc)
    (hC : Chg (fun _ => False) W0 W3) (hT : ThsAt W0 pt L) (hP : IReads W0 none picks) (hnl : n ≤ picks.length) (hln : picks.length ≤ 1048576) (hm : IsMem W3 m b) (hb : Bank W3 F b 16384 5 [0, 1, 0, 0, 0] l) (hll : l.length ≤ 16) (hF : ∀ k, F k → W0.heap.size ≤ k) (hmW : W0.heap.size ≤ m) (nm : ¬ F m) (hk : ∀ t ∈ L, ∀ k ∈ t.ks, 0 ≤ k.kind ∧ k.kind ≤ 3) (h64 : L.length ≤ 64) (h4k : ∀ t ∈ L, t.ks.length ≤ 4096) :
    ∀ w', Chg (fun _ => False) W3 w' → Calls Try.prog 10 #[.pointer (some ⟨m, 0, none⟩), .int .u64 1, .agg #[.slice pt L.length ct, .slice none n cp]] w' fun e W' => ∃ sv r R cl vb pv c0 Z qv, e = .returned (.tuple #[sv, .pointer (some ⟨r, 0, none⟩)]) ∧ R.map ThrV.ks = L.map (fun t => t.ks.map CallV.pl) ∧ RE W0 m b R picks n 5 [0, 1, 0, 0, 0] (fun _ => []) W' sv r cl vb pv c0 Z qv := by
  intro w' cw
  have el : (picks.take n).length = n := by rw [List.length_take]; omega
  have hl : ∀ (i : Nat) (x : Int), (picks.take n)[i]? = some x → picks[i]? = some x := fun i x h => by
    rw [List.getElem?_take] at h
    split at h
    · exact h
    · simp at h
  have q := v_run pt none ct cp L picks (picks.take n) W0 w' m b 5 F [0, 1, 0, 0, 0] l (fun _ => []) (hC.falls cw) hT (hP.take n) hl (by omega) (hm.chg cw (fun x => x)) (hb.chg cw (fun _ _ x => x)) hll hF hmW nm hk h64 h4k GI.first
  rw [el] at q
  exact q
/-- Of two looks at one object: what the first told stands at the second's end. -/
theorem two_looks {n1 n2 : Nat} {cs cs' : List Nat} {ch ch' : Nat → List Nat} (h : GI n1 cs ch) (h' : GI n2 cs' ch') (g : Gr cs ch cs' ch') {o K K' : Nat} (ho : isO o) (S : Stops cs 16384 o K) (S' : Stops cs' 16384 o K') :
    K ≤ K' ∧ ∀ i, i < K → cellN cs' (hN cs' o (K' - K + i)) = cellN cs (hN cs o i) ∧ (cellN cs (hN cs o i + 1) ≠ 0 → cellN cs' (hN cs' o (K' - K + i) + 1) = cellN cs (hN cs o i + 1)) := by
  obtain ⟨e1, e2⟩ := h.stops ho S
  obtain ⟨f1, f2⟩ := h'.stops ho S'
  obtain ⟨pre, e⟩ := g.suf o ho
  have hl : K' = pre.length + K := by rw [f1, e, List.length_append, e1]
  refine ⟨by omega, fun i hi => ?_⟩
  have ha := List.getElem?_eq_getElem (show i < (ch o).length by omega)
  have hb : (ch' o)[K' - K + i]? = some ((ch o)[i]'(by omega)) := by
    rw [e, List.getElem?_append_right (by omega), show K' - K + i - pre.length = i by omega]
    exact ha
  rw [e2 i _ ha, f2 _ _ hb]
  obtain ⟨v1, _, v3⟩ := g.val o ho _ (List.mem_of_getElem? ha)
  exact ⟨v1, v3⟩
theorem GRun.fin {m b T : Nat} {cl : Nat → Nat} {vb : Nat → Nat} {pv : Nat → Nat → Value} {c0 : Cfg VP} {W Z X : World} {S : Nat → Prop} {r : Nat} {picks : List Int} {k : Nat} (h : GRun vcK 16384 m b T cl vb pv c0 W Z X S r picks k) : IsMem X m b ∧ (∃ F l, Bank X F b 16384 (c0.run vcK 16384 T cl (picks.take k)).next (c0.run vcK 16384 T cl (picks.take k)).cs l) ∧ Chg (fun _ => False) W X ∧ ∀ j, S j → X.heap[j]? = Z.heap[j]? := by
  obtain ⟨G, K, vw, tv, ev, av, ths, evs, ats, g⟩ := h
  obtain ⟨F, D, md, tg, M⟩ := g.ma
  obtain ⟨l, B, hl⟩ := M.bank
  exact ⟨M.mem, ⟨F, l, B⟩, g.chg, fun j hj => (g.keep j hj).2.1⟩
/-- The first looks, kept in an array of three. -/
structure FS (X0 X : World) (g : Nat) (cs : List Nat) (n : Nat) (v : Nat → Value) (K : Nat → Nat) : Prop where
  chg : Chg (fun _ => False) X0 X
  arr : X.heap[g]? = some (.cells #[v 0, v 1, v 2] 38 (0, 0))
  ge : X0.heap.size ≤ g
  row : ∀ i, i < n → X.ownsRow 0 43 2 (v i) (K i) (verRow cs (i + 2) (K i))
  st : ∀ i, i < n → Stops cs 16384 (i + 2) (K i)
  new : ∀ i k, i < n → (v i).ownBlock = some k → X0.heap.size ≤ k
theorem FS.more {X0 X Y : World} {g : Nat} {cs : List Nat} {n : Nat} {v : Nat → Value} {K : Nat → Nat} (h : FS X0 X g cs n v K) (hn : n < 3) {k : Nat} {u : Value} (V : VI cs (n + 2) X Y k u) (S : Stops cs 16384 (n + 2) k) : FS X0 (Y.setCell ⟨g, n, none⟩ u) g cs (n + 1) (updN v n u) (updN K n k) := by
  have aY : Y.heap[g]? = some (.cells #[v 0, v 1, v 2] 38 (0, 0)) := (V.chg.block g (lt_of h.arr) (fun x => x)).trans h.arr
  have sz := h.chg.size
  have hge := h.ge
  have oth : ∀ j, j ≠ g → (Y.setCell ⟨g, n, none⟩ u).heap[j]? = Y.heap[j]? := fun j hj => Below.heap_setCell _ _ _ _ hj
  have rY : ∀ {w : Value} {m : Nat} {xs : List Value}, Y.ownsRow 0 43 2 w m xs → (Y.setCell ⟨g, n, none⟩ u).ownsRow 0 43 2 w m xs := fun r => row_kept r fun j e => oth j (fun z => block_apart r aY (by decide) (by rw [← z]; exact e))
  refine ⟨(h.chg.falls V.chg).setCell (p := ⟨g, n, none⟩) (fun z => by simp only at z; omega) u, ?_, h.ge, fun i hi => ?_, fun i hi => ?_, fun i j hi e => ?_⟩
  · have z := set_of aY n u
    rw [z]
    obtain rfl | rfl | rfl : n = 0 ∨ n = 1 ∨ n = 2 := by omega
    · rfl
    · rfl
    · rfl
  · by_cases e : i = n
    · subst e; rw [updN_same, updN_same]; exact rY V.row
    · rw [updN_other _ _ _ _ e, updN_other _ _ _ _ e]
      have r := h.row i (by omega)
      exact rY (row_kept r fun j e => V.chg.block j (row_lt r j e) (fun x => x))
  · by_cases e : i = n
    · subst e; rw [updN_same]; exact S
    · rw [updN_other _ _ _ _ e]; exact h.st i (by omega)
  · by_cases c : i = n
    · subst c; rw [updN_same] at e; have := V.new j e; omega
    · rw [updN_other _ _ _ _ c] at e; exact h.new i j (by omega) e
theorem FS.quiet {X0 X Y : World} {g : Nat} {cs : List Nat} {n : Nat} {v : Nat → Value} {K : Nat → Nat} (h : FS X0 X g cs n v K) (c : Chg (fun _ => False) X Y) : FS X0 Y g cs n v K :=
  ⟨h.chg.falls c, (c.block g (lt_of h.arr) (fun x => x)).trans h.arr, h.ge, fun i hi => row_kept (h.row i hi) fun k e => c.block k (row_lt (h.row i hi) k e) (fun x => x), h.st, h.new⟩
theorem FS.cell {X0 X : World} {g : Nat} {cs : List Nat} {n : Nat} {v : Nat → Value} {K : Nat → Nat} (h : FS X0 X g cs n v K) (i : Nat) (hi : i < 3) : X.cell? ⟨g, i, none⟩ = some (v i) := by
  rw [cell_of h.arr i]
  obtain rfl | rfl | rfl : i = 0 ∨ i = 1 ∨ i = 2 := by omega
  · rfl
  · rfl
  · rfl
/-- What is there behind the second run: the first looks stand beside it. -/
structure SS (W0 X : World) (m b g : Nat) (cs1 : List Nat) (c2 : Cfg VP) (v : Nat → Value) (K : Nat → Nat) : Prop where
  chg : Chg (fun _ => False) W0 X
  mem : IsMem X m b
  bank : ∃ F l, Bank X F b 16384 c2.next c2.cs l
  arr : X.heap[g]? = some (.cells #[v 0, v 1, v 2] 38 (0, 0))
  row : ∀ i, i < 3 → X.ownsRow 0 43 2 (v i) (K i) (verRow cs1 (i + 2) (K i))
theorem SS.quiet {W0 X Y : World} {m b g : Nat} {cs1 : List Nat} {c2 : Cfg VP} {v : Nat → Value} {K : Nat → Nat} (h : SS W0 X m b g cs1 c2 v K) (c : Chg (fun _ => False) X Y) : SS W0 Y m b g cs1 c2 v K := by
  refine ⟨h.chg.falls c, h.mem.chg c (fun x => x), ?_, (c.block g (lt_of h.arr) (fun x => x)).trans h.arr, fun i hi => row_kept (h.row i hi) fun k e => c.block k (row_lt (h.row i hi) k e) (fun x => x)⟩
  obtain ⟨F, l, B⟩ := h.bank
  exact ⟨F, l, B.chg c (fun _ _ x => x)⟩
theorem SS.cell {W0 X : World} {m b g : Nat} {cs1 : List Nat} {c2 : Cfg VP} {v : Nat → Value} {K : Nat → Nat} (h : SS W0 X m b g cs1 c2 v K) (i : Nat) (hi : i < 3) : X.cell? ⟨g, i, none⟩ = some (v i) := by
  rw [cell_of h.arr i]
  obtain rfl | rfl | rfl : i = 0 ∨ i = 1 ∨ i = 2 := by omega
  · rfl
  · rfl
  · rfl
theorem FS.later {Wa X Y W0 : World} {g m b T r : Nat} {cs : List Nat} {v : Nat → Value} {K cl vb : Nat → Nat} {pv : Nat → Nat → Value} {c0 : Cfg VP} {picks : List Int} (h : FS Wa X g cs 3 v K) (G : GRun vcK 16384 m b T cl vb pv c0 W0 X Y (fun j => Wa.heap.size ≤ j ∧ j < X.heap.size) r picks picks.length) : SS W0 Y m b g cs (c0.run vcK 16384 T cl (picks.take picks.length)) v K := by
  obtain ⟨M, B, C, k⟩ := G.fin
  exact ⟨C, M, B, (k g ⟨h.ge, lt_of h.arr⟩).trans h.arr, fun i hi => row_kept (h.row i hi) fun j e => k j ⟨h.new i j hi e, row_lt (h.row i hi) j e⟩⟩
/-- Of both looks together. -/
def Two (cs1 cs2 : List Nat) (K : Nat → Nat) : Prop := ∀ o K', o < 3 → Stops cs2 16384 (o + 2) K' → FallsR cs2 (o + 2) K' ∧ K o ≤ K' ∧ ∀ i, i < K o → cellN cs2 (hN cs2 (o + 2) (K' - K o + i)) = cellN cs1 (hN cs1 (o + 2) i) ∧ (cellN cs1 (hN cs1 (o + 2) i + 1) ≠ 0 → cellN cs2 (hN cs2 (o + 2) (K' - K o + i) + 1) = cellN cs1 (hN cs1 (o + 2) i + 1))
theorem VInv.two {T : Nat} {cl : Nat → Nat} {c1 c0 : Cfg VP} {ch : Nat → List Nat} {own : Nat → Nat × Nat} {picks : List Int} {n : Nat} (h : VInv T cl c1 ch own) (hc : c1 = c0.run vcK 16384 T cl (picks.take n)) {K : Nat → Nat} (S : ∀ i, i < 3 → Stops c1.cs 16384 (i + 2) (K i)) : Two c1.cs (c0.run vcK 16384 T cl (picks.take picks.length)).cs K := by
  obtain ⟨ch2, own2, V⟩ := h.run (picks.drop n)
  rw [run_split (n := n), ← hc]
  intro o K' ho S'
  have hIo : isO (o + 2) := ⟨by omega, by omega⟩
  exact ⟨V.inv.gi.fallsR hIo S', two_looks h.gi V.inv.gi V.gr hIo (S o ho) S'⟩
theorem two_new (w : World) (a b : Obj) : Chg (fun _ => False) w ((w.alloc a).alloc b).drew ∧ ((w.alloc a).alloc b).drew.heap[w.heap.size]? = some a ∧ ((w.alloc a).alloc b).drew.heap[w.heap.size + 1]? = some b := by
  refine ⟨(((Chg.refl _ _).alloc a).alloc b).drew, ?_, ?_⟩
  · have e : (w.alloc a).heap[w.heap.size]? = some a := heap_alloc_new _ _
    exact ((((Chg.refl (fun _ => False) (w.alloc a)).alloc b).drew).block _ (lt_of e) (fun x => x)).trans e
  · have e : ((w.alloc a).alloc b).heap[(w.alloc a).heap.size]? = some b := heap_alloc_new _ _
    rw [show (w.alloc a).heap.size = w.heap.size + 1 by simp] at e
    exact e
set_option maxRecDepth 100000 in
set_option maxHeartbeats 8000000 in
theorem stamps_walk (pt : Option Addr) (a : Addr) (ct cp : Nat) (L : List ThrV) (picks : List Int) (cut : Int) (w : World) (hT : ThsAt w pt L) (hP : IReads w (some a) picks) (hcp : picks.length ≤ cp) (hn0 : L.length ≤ 1048576) (hn1 : picks.length ≤ 1048576) :
    Calls Try.prog 3 #[.agg #[.slice pt L.length ct, .slice (some a) picks.length cp], .int .i64 cut] w fun e w' => e = .returned (.bool true) ∧ Chg (fun _ => False) w w' := by
  have HT := keepH hT
  have HP := keepH hP
  clear hT hP
  obtain ⟨z, n, hz, hnl, hrem⟩ := rem_cut cut picks.length hn1
  obtain ⟨W0, hW0⟩ : ∃ W0, W0 = w.alloc (.cells #[.slice pt L.length ct, .slice (some a) picks.length cp] 25) := ⟨_, rfl⟩
  have C0 : Hid (Chg (fun _ => False) w W0) := by rw [hW0]; exact (Chg.refl _ _).alloc _
  have sz0 : Hid (W0.heap.size = w.heap.size + 1) := by rw [hW0]; simp [Hid]
  have hb0 : Hid (W0.heap[w.heap.size]? = some (.cells #[.slice pt L.length ct, .slice (some a) picks.length cp] 25 (0, 0))) := by rw [hW0]; exact heap_alloc_new _ _
  have wl : IntKind.i64.wrap ((picks.length : Int) + 1) = ((picks.length + 1 : Nat) : Int) := by rw [IntKind.wrap_i64]; omega
  have wl2 : IntKind.u64.wrap ((picks.length + 1 : Nat) : Int) = ((picks.length + 1 : Nat) : Int) := by rw [IntKind.wrap_u64]; omega
  have wn : IntKind.i64.wrap (n : Int) = (n : Int) := by rw [IntKind.wrap_i64]; omega
  have wn64 : wrap64 (n : Int) = (n : Int) := by unfold wrap64; omega
  have hmod : (z : Int) % ((picks.length : Int) + 1) = (n : Int) := by have h := hrem; rw [Int.tmod_eq_emod_of_nonneg (by omega)] at h; simpa using h
  have HWL := keepH wl
  go_enter Try.func3, Try.ntmps3
  go_wp2_with fail
  rw [← hW0]
  clear hW0
  refine (mem_16k W0).mono ?_
  rintro e W1 ⟨rfl, M1, ⟨F, l, B1, hl1, hF1, nm1⟩, C1⟩
  have HM1 := keepH M1
  have HB1 := keepH B1
  have HF1 := keepH hF1
  have HN1 := keepH nm1
  have HC1 := keepH C1
  have HL1 := keepH hl1
  clear M1 B1 hF1 nm1 C1 hl1
  obtain ⟨m, hm⟩ : ∃ m, m = W0.heap.size + 1 := ⟨_, rfl⟩
  obtain ⟨b, hb⟩ : ∃ b, b = W0.heap.size := ⟨_, rfl⟩
  have Hm : Hid (m = w.heap.size + 2) := by show m = _; have := sz0.out; omega
  rw [← hm, ← hb] at HM1
  rw [← hm] at HN1
  rw [← hb] at HB1
  rw [← hm]
  clear hm hb
  go_wp2_with fail
  refine (vc_live _).mono ?_
  rintro e W2 ⟨rfl, C2⟩
  have HM2 := keepH (HM1.out.chg C2 (fun x => x))
  have HB2 := keepH (HB1.out.chg C2 (fun _ _ x => x))
  have HC2 : Hid (Chg (fun _ => False) W0 W2) := HC1.out.falls C2
  have hb2 : Hid (W2.heap[w.heap.size]? = some (.cells #[.slice pt L.length ct, .slice (some a) picks.length cp] 25 (0, 0))) := (HC2.out.block _ (lt_of hb0.out) (fun x => x)).trans hb0.out
  have x0 : W2.cell? ⟨w.heap.size, 0, none⟩ = some (.slice pt L.length ct) := cell_of hb2.out 0
  have x1 : W2.cell? ⟨w.heap.size, 1, none⟩ = some (.slice (some a) picks.length cp) := cell_of hb2.out 1
  clear C2 HM1 HB1
  go_wp2_with fail
  refine (v_honest pt (some a) ct picks.length cp L W2 (HT.out.chg (C0.out.falls HC2.out)) hn0).mono ?_
  rintro e W3 ⟨rfl, C3⟩
  have HC3 : Hid (Chg (fun _ => False) W0 W3) := HC2.out.falls C3
  have HM3 := keepH (HM2.out.chg C3 (fun x => x))
  have HB3 := keepH (HB2.out.chg C3 (fun _ _ x => x))
  have hb3 : Hid (W3.heap[w.heap.size]? = some (.cells #[.slice pt L.length ct, .slice (some a) picks.length cp] 25 (0, 0))) := (HC3.out.block _ (lt_of hb0.out) (fun x => x)).trans hb0.out
  have y0 : W3.cell? ⟨w.heap.size, 0, none⟩ = some (.slice pt L.length ct) := cell_of hb3.out 0
  have y1 : W3.cell? ⟨w.heap.size, 1, none⟩ = some (.slice (some a) picks.length cp) := cell_of hb3.out 1
  clear C3 HM2 HB2 x0 x1 hb2
  cases hh : honB L
  · go_wp2_with fail
    go_ret
    exact ⟨by simp, C0.out.falls HC3.out⟩
  · obtain ⟨hk, h64, h4k⟩ := honB_out hh
    have hm0 : W0.heap.size ≤ m := by have := Hm.out; have := sz0.out; omega
    have hl16 : l.length ≤ 16 := by rw [HL1.out]; omega
    have HRun := keepH (run_part pt a ct cp L picks n W0 W3 m b F l HC3.out (HT.out.chg C0.out) (HP.out.chg C0.out) hnl hn1 HM3.out HB3.out hl16 HF1.out hm0 HN1.out hk h64 h4k)
    have hncp : n ≤ cp := Nat.le_trans hnl hcp
    have icp : (n : Int) ≤ (cp : Int) := Int.ofNat_le.2 hncp
    have inl : (n : Int) ≤ (picks.length : Int) := Int.ofNat_le.2 hnl
    have i0n : (0 : Int) ≤ (n : Int) := Int.natCast_nonneg n
    clear hk h64 h4k hm0 hl16
    go_upto_region 7 with fail
    clear hmod hrem wl wl2 hz wn
    go_cut [9] from 40 to 52 (fun s9 wz => ∃ r R cl vb pv c0 Z qv sv, s9 = .pointer (some ⟨r, 0, none⟩) ∧ Hid (RE W0 m b R picks n 5 [0, 1, 0, 0, 0] (fun _ => []) wz sv r cl vb pv c0 Z qv))
    case first =>
      have hS0 : W3.drew.cell? ⟨w.heap.size, 0, none⟩ = some (.slice pt L.length ct) ∧ W3.drew.cell? ⟨w.heap.size, 1, none⟩ = some (.slice (some a) picks.length cp) := ⟨y0, y1⟩
      refine wp_region_held_drew (S := (fun wd => wd.cell? ⟨w.heap.size, 0, none⟩ = some (.slice pt L.length ct) ∧ wd.cell? ⟨w.heap.size, 1, none⟩ = some (.slice (some a) picks.length cp))) (by kernel_rfl) (hS0) ?_
      intro hHeld
      refine wpAnyH_take (i := 0) (v := ?_) rfl (by kernel_rfl) (by kernel_rfl) (by kernel_rfl) (fun _ _ _ h => h) (Or.inl ⟨by rfl, ?_⟩) hHeld ?_
      rotate_left
      · intro w hSw
        (try dsimp only at hSw)
        go_simp
        try with_reducible rfl
      (try simp only [Act.put]); (try simp only [List.setIfInBounds_toArray]); (repeat (first | simp only [List.set_cons_succ] | simp only [List.set_cons_zero]))
      refine wpAnyH_take (i := 1) (v := ?_) rfl (by kernel_rfl) (by kernel_rfl) (by kernel_rfl) (fun _ _ _ h => h) (Or.inl ⟨by rfl, ?_⟩) hHeld ?_
      rotate_left
      · intro w hSw
        (try dsimp only at hSw)
        go_simp
        try with_reducible rfl
      (try simp only [Act.put]); (try simp only [List.setIfInBounds_toArray]); (repeat (first | simp only [List.set_cons_succ] | simp only [List.set_cons_zero]))
      refine wpAnyH_take (i := 2) (v := ?_) rfl (by kernel_rfl) (by kernel_rfl) (by kernel_rfl) (fun _ _ _ h => h) (Or.inl ⟨by rfl, ?_⟩) hHeld ?_
      rotate_left
      · intro w hSw
        (try dsimp only at hSw)
        go_simp
        try with_reducible rfl
      (try simp only [Act.put]); (try simp only [List.setIfInBounds_toArray]); (repeat (first | simp only [List.set_cons_succ] | simp only [List.set_cons_zero]))
      refine wpAnyH_take (i := 3) (v := ?_) rfl (by kernel_rfl) (by kernel_rfl) (by kernel_rfl) (fun _ _ _ h => h) (Or.inl ⟨by rfl, ?_⟩) hHeld ?_
      rotate_left
      · intro w hSw
        (try dsimp only at hSw)
        go_simp
        try with_reducible rfl
      (try simp only [Act.put]); (try simp only [List.setIfInBounds_toArray]); (repeat (first | simp only [List.set_cons_succ] | simp only [List.set_cons_zero]))
      refine wpAnyH_take (i := 4) (v := ?_) rfl (by kernel_rfl) (by kernel_rfl) (by kernel_rfl) (fun _ _ _ h => h) (Or.inl ⟨by rfl, ?_⟩) hHeld ?_
      rotate_left
      · intro w hSw
        (try dsimp only at hSw)
        go_simp
        try with_reducible rfl
      (try simp only [Act.put]); (try simp only [List.setIfInBounds_toArray]); (repeat (first | simp only [List.set_cons_succ] | simp only [List.set_cons_zero]))
      refine wpAnyH_take (i := 5) (v := ?_) rfl (by kernel_rfl) (by kernel_rfl) (by kernel_rfl) (fun _ _ _ h => h) (Or.inl ⟨by rfl, ?_⟩) hHeld ?_
      rotate_left
      · intro w hSw
        (try dsimp only at hSw)
        go_simp
        try with_reducible rfl
      (try simp only [Act.put]); (try simp only [List.setIfInBounds_toArray]); (repeat (first | simp only [List.set_cons_succ] | simp only [List.set_cons_zero]))
      refine wpAnyH_take (i := 6) (v := ?_) rfl (by kernel_rfl) (by kernel_rfl) (by kernel_rfl) (fun _ _ _ h => h) (Or.inl ⟨by rfl, ?_⟩) hHeld ?_
      rotate_left
      · intro w hSw
        (try dsimp only at hSw)
        go_simp
        try with_reducible rfl
      (try simp only [Act.put]); (try simp only [List.setIfInBounds_toArray]); (repeat (first | simp only [List.set_cons_succ] | simp only [List.set_cons_zero]))
      refine wpAnyH_take (i := 7) (v := ?_) rfl (by kernel_rfl) (by kernel_rfl) (by kernel_rfl) (fun _ _ _ h => h) (Or.inl ⟨by rfl, ?_⟩) hHeld ?_
      rotate_left
      · intro w hSw
        (try dsimp only at hSw)
        go_simp
        try with_reducible rfl
      (try simp only [Act.put]); (try simp only [List.setIfInBounds_toArray]); (repeat (first | simp only [List.set_cons_succ] | simp only [List.set_cons_zero]))
      refine wpAnyH_take (i := 8) (v := ?_) rfl (by kernel_rfl) (by kernel_rfl) (by kernel_rfl) (fun _ _ _ h => h) (Or.inl ⟨by rfl, ?_⟩) hHeld ?_
      rotate_left
      · intro w hSw
        (try dsimp only at hSw)
        go_simp
        try with_reducible rfl
      (try simp only [Act.put]); (try simp only [List.setIfInBounds_toArray]); (repeat (first | simp only [List.set_cons_succ] | simp only [List.set_cons_zero]))
      refine wpAnyH_ready (rs := [9]) (by kernel_rfl) (by simp) ?_
      refine AllReadyH.cons rfl (fun KK hKK => ?_) AllReadyH.nil
      go_simp
      go_at_call 10
      refine (HRun.out _ (by first | exact Chg.refl _ _ | exact (Chg.refl _ _).drew)).mono ?_
      rintro e w1 ⟨sv, r, R, cl, vb, pv, c0, Z, qv, rfl, hR, E⟩
      have HE := keepH E
      have hb9 : w1.heap[w.heap.size]? = some (.cells #[.slice pt L.length ct, .slice (some a) picks.length cp] 25 (0, 0)) := (E.run.lt.block _ (lt_of hb0.out) (fun x => x)).trans hb0.out
      have hS5 : w1.cell? ⟨w.heap.size, 0, none⟩ = some (.slice pt L.length ct) ∧ w1.cell? ⟨w.heap.size, 1, none⟩ = some (.slice (some a) picks.length cp) := ⟨cell_of hb9 0, cell_of hb9 1⟩
      clear E hR hb9
      try go_wp2_with fail
      refine hKK.out _ _ ?_ (fun hHeld => ?_)
      · exact hS5
      clear hKK KK
      (try simp only [Act.put]); (try simp only [List.setIfInBounds_toArray]); (repeat (first | simp only [List.set_cons_succ] | simp only [List.set_cons_zero]))
      refine wpAnyH_take (i := 10) (v := ?_) rfl (by kernel_rfl) (by kernel_rfl) (by kernel_rfl) (fun _ _ _ h => h) (Or.inl ⟨by rfl, ?_⟩) hHeld ?_
      rotate_left
      · intro w hSw
        (try dsimp only at hSw)
        go_simp
        try with_reducible rfl
      (try simp only [Act.put]); (try simp only [List.setIfInBounds_toArray]); (repeat (first | simp only [List.set_cons_succ] | simp only [List.set_cons_zero]))
      refine wpAnyH_take (i := 11) (v := ?_) rfl (by kernel_rfl) (by kernel_rfl) (by kernel_rfl) (fun _ _ _ h => h) (Or.inl ⟨by rfl, ?_⟩) hHeld ?_
      rotate_left
      · intro w hSw
        (try dsimp only at hSw)
        go_simp
        try with_reducible rfl
      (try simp only [Act.put]); (try simp only [List.setIfInBounds_toArray]); (repeat (first | simp only [List.set_cons_succ] | simp only [List.set_cons_zero]))
      refine wpAnyH_take (i := 12) (v := ?_) rfl (by kernel_rfl) (by kernel_rfl) (by kernel_rfl) (fun _ _ _ h => h) (Or.inl ⟨by rfl, ?_⟩) hHeld ?_
      rotate_left
      · intro w hSw
        (try dsimp only at hSw)
        go_simp
        try with_reducible rfl
      (try simp only [Act.put]); (try simp only [List.setIfInBounds_toArray]); (repeat (first | simp only [List.set_cons_succ] | simp only [List.set_cons_zero]))
      refine wpAnyH_take (i := 13) (v := ?_) rfl (by kernel_rfl) (by kernel_rfl) (by kernel_rfl) (fun _ _ _ h => h) (Or.inl ⟨by rfl, ?_⟩) hHeld ?_
      rotate_left
      · intro w hSw
        (try dsimp only at hSw)
        go_simp
        try with_reducible rfl
      (try simp only [Act.put]); (try simp only [List.setIfInBounds_toArray]); (repeat (first | simp only [List.set_cons_succ] | simp only [List.set_cons_zero]))
      refine wpAnyH_take (i := 14) (v := ?_) rfl (by kernel_rfl) (by kernel_rfl) (by kernel_rfl) (fun _ _ _ h => h) (Or.inl ⟨by rfl, ?_⟩) hHeld ?_
      rotate_left
      · intro w hSw
        (try dsimp only at hSw)
        go_simp
        try with_reducible rfl
      (try simp only [Act.put]); (try simp only [List.setIfInBounds_toArray]); (repeat (first | simp only [List.set_cons_succ] | simp only [List.set_cons_zero]))
      refine wpAnyH_done (by kernel_rfl) ?_ _
      go_simp
      try go_wp2_with fail
      go_meet
      exact ⟨r, R, cl, vb, pv, c0, Z, qv, sv, by first | rfl | trivial, HE⟩
    case rest =>
      obtain ⟨Wa, hWa⟩ : ∃ Wa, Wa = wc := ⟨_, rfl⟩
      subst hWa
      obtain ⟨r, R, cl, vb, pv, c0, Z, qv, sv, rfl, HE⟩ := hcut
      obtain ⟨ch1, own1, V1, E1⟩ := HE.out.ends
      obtain ⟨c1, hc1⟩ : ∃ c1, c1 = c0.run vcK 16384 R.length cl (picks.take n) := ⟨_, rfl⟩
      rw [← hc1] at V1 E1
      have HV1 := keepH V1
      have HE1 := keepH E1
      have HCc := keepH hc1
      clear V1 E1 hc1 y0 y1 HRun
      obtain ⟨g10, hg10⟩ : ∃ g, g = Wa.heap.size := ⟨_, rfl⟩
      obtain ⟨W5, hW5⟩ : ∃ W5, W5 = Wa.alloc (.cells #[.slice none 0 0, .slice none 0 0, .slice none 0 0] 38) := ⟨_, rfl⟩
      have HF5 : Hid (FS Wa W5 g10 c1.cs 0 (fun _ => .slice none 0 0) (fun _ => 0)) := by
        rw [hW5, hg10]
        exact ⟨(Chg.refl _ _).alloc _, heap_alloc_new _ _, Nat.le_refl _, fun i hi => by omega, fun i hi => by omega, fun i k hi => by omega⟩
      go_wp2_with fail
      rw [← hW5, ← hg10]
      clear hW5 hg10
      go_loopw [11] (fun s wr => ∃ (o : Nat) (v : Nat → Value) (K : Nat → Nat), o ≤ 3 ∧ s = .int .i64 (o : Int) ∧ Hid (FS Wa wr g10 c1.cs o v K)) (fun s _ => 3 - (intOf s).toNat)
      case atStart => exact ⟨0, _, _, by omega, rfl, HF5⟩
      case round =>
        obtain ⟨o, v, K, ho3, rfl, HFo⟩ := hrel
        by_cases hlt : o < 3
        · have t1 : (o : Int) < 3 := by omega
          obtain ⟨o2, ho2⟩ : ∃ o2, o2 = o + 2 := ⟨_, rfl⟩
          have k1 : IntKind.u64.wrap (o : Int) = (o : Int) := by rw [IntKind.wrap_u64]; omega
          have k2 : IntKind.u64.wrap ((o : Int) + 2) = (o2 : Int) := by rw [IntKind.wrap_u64]; omega
          have k3 : (o : Int) + 2 = (o2 : Int) := by omega
          have hIo : isO (o + 2) := ⟨by omega, by omega⟩
          obtain ⟨F6, l6, B6, _⟩ := (HE1.out.quiet HFo.out.chg).bank
          have HB6 := keepH B6
          have HO2 := keepH ho2
          have ho64 : o2 < 18446744073709551616 := by omega
          clear B6 ho2
          go_wp2_with fail
          refine (versions_any m b 16384 c1.next o2 F6 c1.cs l6 _ (HE1.out.quiet HFo.out.chg).mem HB6.out ho64 (by omega)).mono ?_
          rintro e W7 ⟨Kn, u, rfl, St7, V7⟩
          rw [HO2.out] at St7 V7
          have HF8 := keepH (HFo.out.more hlt V7 St7)
          have cc : W7.cell? ⟨g10, o, none⟩ = some (v o) := (HFo.out.quiet V7.chg).cell o hlt
          have ff : W7.frozen? ⟨g10, o, none⟩ = false := free_of (HFo.out.quiet V7.chg).arr o
          have HS7 := keepH St7
          have hKn : Kn ≤ 16384 := St7.1
          obtain ⟨pu, cu, hu⟩ := slice_of V7.row
          subst hu
          clear St7 V7
          go_wp2_with fail
          have HRw : Hid ((W7.setCell ⟨g10, o, none⟩ (.slice pu Kn cu)).ownsRow 0 43 2 (.slice pu Kn cu) Kn (verRow c1.cs (o + 2) Kn)) := by have z := HF8.out.row o (by omega); rw [updN_same, updN_same] at z; exact z
          refine (v_falls c1.cs (o + 2) Kn _ _ HRw.out hKn (HV1.out.inv.gi.fallsR hIo HS7.out)).mono ?_
          rintro e W9 ⟨rfl, C9⟩
          have HC9 := keepH C9
          clear C9
          go_wp2_with fail
          refine ⟨⟨o + 1, _, _, by omega, by simp, HF8.out.quiet HC9.out⟩, by simp [intOf]; omega⟩
        · have t1 : ¬ (o : Int) < 3 := by omega
          obtain rfl : o = 3 := by omega
          have bx : wr.heap[w.heap.size]? = some (.cells #[.slice pt L.length ct, .slice (some a) picks.length cp] 25 (0, 0)) := (((HE1.out.quiet HFo.out.chg).chg).block _ (lt_of hb0.out) (fun x => x)).trans hb0.out
          have bx1 : wr.cell? ⟨w.heap.size, 1, none⟩ = some (.slice (some a) picks.length cp) := cell_of bx 1
          clear bx
          have HG0 := keepH (HE.out.run.rebase HFo.out.chg)
          have hdl : (picks.drop n).length = picks.length - n := List.length_drop ..
          go_upto_region 17 with fail
          go_cut [] from 71 to 76 (fun wz => Hid (GRun vcK 16384 m b R.length cl vb pv c0 W0 wr wz (fun j => Wa.heap.size ≤ j ∧ j < wr.heap.size) r picks picks.length))
          case first =>
            have HRn : Hid (∀ (p : Option Addr) (c k : Nat), k = picks.length - n → IReads w p (picks.drop n) → Calls Try.prog 13 #[.pointer (some ⟨r, 0, none⟩), .slice p k c] wr fun e X' => e = .returned (.tuple #[]) ∧ GRun vcK 16384 m b R.length cl vb pv c0 W0 wr X' (fun j => Wa.heap.size ≤ j ∧ j < wr.heap.size) r picks picks.length) := fun p c k hk hp => by
              subst hk
              have q := gr_run (l := picks.drop n) (k0 := n) p c HG0.out (hp.chg C0.out) (fun i x h => by rw [List.getElem?_drop] at h; exact h) (by rw [hdl]; omega)
              rw [hdl, show n + (picks.length - n) = picks.length by omega] at q
              exact q
            have HPd := keepH (HP.out.drop n)
            by_cases hcn : cp = n
            · have hle : picks.drop n = [] := List.drop_eq_nil_of_le (by omega)
              have HLe := keepH hle
              clear hle
              subst hcn
              go_wp2_with fail
              refine (HRn.out _ _ _ (by omega) (by rw [HLe.out]; exact .inl rfl)).mono ?_
              rintro e w9 ⟨rfl, G9⟩
              have HG9 := keepH G9
              clear G9
              go_wp2_with fail
              go_meet
              exact HG9
            · have hcn2 : ¬ cp - n = 0 := by omega
              go_wp2_with fail
              refine (HRn.out _ _ _ (by omega) HPd.out).mono ?_
              rintro e w9 ⟨rfl, G9⟩
              have HG9 := keepH G9
              clear G9
              go_wp2_with fail
              go_meet
              exact HG9
          case rest =>
            have HS9 := keepH (HFo.out.later hcut.out)
            have HTw := keepH (HV1.out.inv.two HCc.out (fun i hi => HFo.out.st i hi))
            obtain ⟨c2, hc2⟩ : ∃ c2, c2 = c0.run vcK 16384 R.length cl (picks.take picks.length) := ⟨_, rfl⟩
            rw [← hc2] at HS9 HTw
            clear hcut hc2 HE HE1 HV1 HCc HG0 hdl HFo bx1
            go_wp2_with fail
            go_loopw [12] (fun s wy => ∃ o : Nat, o ≤ 3 ∧ s = .int .i64 (o : Int) ∧ Hid (SS W0 wy m b g10 c1.cs c2 v K)) (fun s _ => 3 - (intOf s).toNat)
            case atStart => exact ⟨0, by omega, rfl, HS9⟩
            case round =>
              obtain ⟨o, ho3, rfl, HSo⟩ := hrel
              by_cases hlt : o < 3
              · have t1 : (o : Int) < 3 := by omega
                obtain ⟨o2, ho2⟩ : ∃ o2, o2 = o + 2 := ⟨_, rfl⟩
                have k1 : IntKind.u64.wrap (o : Int) = (o : Int) := by rw [IntKind.wrap_u64]; omega
                have k2 : IntKind.u64.wrap ((o : Int) + 2) = (o2 : Int) := by rw [IntKind.wrap_u64]; omega
                have k3 : (o : Int) + 2 = (o2 : Int) := by omega
                obtain ⟨F6, l6, B6⟩ := HSo.out.bank
                have HB6 := keepH B6
                have HO2 := keepH ho2
                have ho64 : o2 < 18446744073709551616 := by omega
                clear B6 ho2
                go_wp2_with fail
                refine (versions_any m b 16384 c2.next o2 F6 c2.cs l6 _ HSo.out.mem HB6.out ho64 (by omega)).mono ?_
                rintro e W7 ⟨Kn, u, rfl, St7, V7⟩
                rw [HO2.out] at St7 V7
                obtain ⟨f1, f2, f3⟩ := HTw.out o Kn hlt St7
                have HF1 := keepH f1
                have HF3 := keepH f3
                have HS7 := keepH (HSo.out.quiet V7.chg)
                have hKn : Kn ≤ 16384 := St7.1
                obtain ⟨pu, cu, hu⟩ := slice_of V7.row
                subst hu
                have HRV := keepH V7.row
                have HRo := keepH (HS7.out.row o hlt)
                obtain ⟨pf, cf, hf⟩ := slice_of HRo.out
                have HCf : Hid (W7.cell? ⟨g10, o, none⟩ = some (.slice pf (K o) cf)) := by rw [← hf]; exact HS7.out.cell o hlt
                rw [hf] at HRo
                obtain ⟨Ko, hKo⟩ : ∃ Ko, Ko = K o := ⟨_, rfl⟩
                rw [← hKo] at HRo HCf HF3 f2
                have cc := HCf.out
                obtain ⟨kk, hkk⟩ : ∃ kk, kk = Kn - Ko := ⟨_, rfl⟩
                rw [← hkk] at HF3
                have wk : IntKind.i64.wrap ((Kn : Int) - (Ko : Int)) = (kk : Int) := by rw [IntKind.wrap_i64]; omega
                have wk2 : (Kn : Int) - (Ko : Int) = (kk : Int) := by omega
                have k0 : ¬ (kk : Int) < 0 := by omega
                have HKk : Hid (Ko + kk = Kn) := by show Ko + kk = Kn; omega
                clear hKo hf St7 V7 f1 f3 hkk f2
                go_wp2_with fail
                refine (v_falls c2.cs (o + 2) Kn _ _ HRV.out hKn HF1.out).mono ?_
                rintro e W9 ⟨rfl, C9⟩
                have HC9 := keepH C9
                clear C9
                go_wp2_with fail
                go_loopw [15] (fun s wx => ∃ i : Nat, i ≤ Ko ∧ s = .int .i64 (i : Int) ∧ Hid (Chg (fun _ => False) W7 wx)) (fun s _ => Ko - (intOf s).toNat)
                case atStart => exact ⟨0, by omega, rfl, HC9⟩
                case round =>
                  obtain ⟨i, hi, rfl, HX⟩ := hrel
                  have cc : wr.cell? ⟨g10, o, none⟩ = some (.slice pf Ko cf) := cell_chg HX.out HCf.out (fun x => x)
                  by_cases hi2 : i < Ko
                  · have t2 : (i : Int) < (Ko : Int) := by omega
                    obtain ⟨gf, df, ef⟩ := slice_pos HRo.out (by omega)
                    simp only [Value.slice.injEq] at ef
                    obtain ⟨rfl, _, rfl⟩ := ef
                    have hk := HKk.out
                    obtain ⟨gu, du, eu⟩ := slice_pos HRV.out (by omega)
                    simp only [Value.slice.injEq] at eu
                    obtain ⟨rfl, _, rfl⟩ := eu
                    have RA := row_kept (W' := wr) HRo.out (fun g e => HX.out.block g (row_lt HRo.out g e) (fun x => x))
                    have RB := row_kept (W' := wr) HRV.out (fun g e => HX.out.block g (row_lt HRV.out g e) (fun x => x))
                    obtain ⟨a1, a2⟩ := verRow_get c1.cs (o + 2) Ko i hi2
                    obtain ⟨b1, b2⟩ := verRow_get c2.cs (o + 2) Kn (kk + i) (by omega)
                    obtain ⟨e1, e2⟩ := HF3.out i hi2
                    rw [e1] at b1
                    obtain ⟨xa, hxa⟩ : ∃ x, x = cellN c1.cs (hN c1.cs (o + 2) i) := ⟨_, rfl⟩
                    obtain ⟨ya, hya⟩ : ∃ x, x = cellN c1.cs (hN c1.cs (o + 2) i + 1) := ⟨_, rfl⟩
                    obtain ⟨yb, hyb⟩ : ∃ x, x = cellN c2.cs (hN c2.cs (o + 2) (kk + i) + 1) := ⟨_, rfl⟩
                    rw [← hxa] at a1 b1
                    rw [← hya] at a2 e2
                    rw [← hyb] at b2 e2
                    obtain ⟨j, hj⟩ : ∃ j, j = kk + i := ⟨_, rfl⟩
                    rw [← hj] at b1 b2
                    have ca0 : wr.cell? ⟨gf, i * 2, none⟩ = some (.int .u64 (xa : Int)) := by rw [Nat.mul_comm i 2]; exact ver_cell RA _ _ a1
                    have ca1 : wr.cell? ⟨gf, i * 2 + 1, none⟩ = some (.int .u64 (ya : Int)) := by rw [Nat.mul_comm i 2]; exact ver_cell RA _ _ a2
                    have cb0 : wr.cell? ⟨gu, j * 2, none⟩ = some (.int .u64 (xa : Int)) := by rw [Nat.mul_comm j 2]; exact ver_cell RB _ _ b1
                    have cb1 : wr.cell? ⟨gu, j * 2 + 1, none⟩ = some (.int .u64 (yb : Int)) := by rw [Nat.mul_comm j 2]; exact ver_cell RB _ _ b2
                    have wj : IntKind.i64.wrap ((kk : Int) + (i : Int)) = (j : Int) := by rw [IntKind.wrap_i64]; omega
                    have wj2 : (kk : Int) + (i : Int) = (j : Int) := by omega
                    have tj : (j : Int) < (Kn : Int) := by omega
                    have HE2 := keepH e2
                    have q1 : ∀ o (p : Addr) v, wr.cell? p = some v → (wr.alloc o).cell? p = some v := fun o p v h => cell_chg ((Chg.refl (fun _ => False) wr).alloc o) h (fun x => x)
                    have q2 : ∀ o o' (p : Addr) v, wr.cell? p = some v → ((wr.alloc o).alloc o').cell? p = some v := fun o o' p v h => cell_chg (((Chg.refl (fun _ => False) wr).alloc o).alloc o') h (fun x => x)
                    have ccA := fun o => q1 o _ _ cc
                    have ccB := fun o o' => q2 o o' _ _ cc
                    have ca0A := fun o => q1 o _ _ ca0
                    have ca0B := fun o o' => q2 o o' _ _ ca0
                    have ca1A := fun o => q1 o _ _ ca1
                    have ca1B := fun o o' => q2 o o' _ _ ca1
                    have cb0A := fun o => q1 o _ _ cb0
                    have cb0B := fun o o' => q2 o o' _ _ cb0
                    have cb1A := fun o => q1 o _ _ cb1
                    have cb1B := fun o o' => q2 o o' _ _ cb1
                    clear q1 q2
                    clear RA RB a1 a2 b1 b2 e1 e2 hxa hya hyb hj hk
                    go_upto_region 28 with fail
                    go_cut [16, 17] from 108 to 119 (fun s16 s17 wz => ∃ p q : Nat, s16 = .pointer (some ⟨p, 0, none⟩) ∧ s17 = .pointer (some ⟨q, 0, none⟩) ∧ Hid (Chg (fun _ => False) wr wz) ∧ wz.heap[p]? = some (.cells #[.int .u64 (xa : Int), .int .u64 (ya : Int)] 43 (0, 0)) ∧ wz.heap[q]? = some (.cells #[.int .u64 (xa : Int), .int .u64 (yb : Int)] 43 (0, 0)))
                    case first =>
                      go_big_region
                      · try go_wp2_with fail
                        go_meet
                        obtain ⟨n1, n2, n3⟩ := two_new wr (.cells #[.int .u64 (xa : Int), .int .u64 (ya : Int)] 43) (.cells #[.int .u64 (xa : Int), .int .u64 (yb : Int)] 43)
                        exact ⟨_, _, rfl, rfl, n1, n2, n3⟩
                      · try go_wp2_with fail
                        go_meet
                        obtain ⟨n1, n2, n3⟩ := two_new wr (.cells #[.int .u64 (xa : Int), .int .u64 (yb : Int)] 43) (.cells #[.int .u64 (xa : Int), .int .u64 (ya : Int)] 43)
                        exact ⟨_, _, rfl, rfl, n1, n3, n2⟩
                    case rest =>
                      obtain ⟨p, q, rfl, rfl, HZ, hp, hq⟩ := hcut
                      have p0 : wc.cell? ⟨p, 0, none⟩ = some (.int .u64 (xa : Int)) := cell_of hp 0
                      have p1 : wc.cell? ⟨p, 1, none⟩ = some (.int .u64 (ya : Int)) := cell_of hp 1
                      have q0 : wc.cell? ⟨q, 0, none⟩ = some (.int .u64 (xa : Int)) := cell_of hq 0
                      have q1 : wc.cell? ⟨q, 1, none⟩ = some (.int .u64 (yb : Int)) := cell_of hq 1
                      clear hp hq ccA ccB ca0A ca0B ca1A ca1B cb0A cb0B cb1A cb1B
                      by_cases za : ya = 0
                      · subst za
                        go_wp2_with fail
                        refine ⟨⟨i + 1, by omega, by simp, HX.out.falls HZ.out⟩, by simp [intOf]; omega⟩
                      · have ea : ((ya : Int) != 0) = true := by simpa using za
                        have zi : ¬ (ya : Int) = 0 := by omega
                        have eb : yb = ya := HE2.out za
                        subst eb
                        go_wp2_with fail
                        refine ⟨⟨i + 1, by omega, by simp, HX.out.falls HZ.out⟩, by simp [intOf]; omega⟩
                  · have t2 : ¬ (i : Int) < (Ko : Int) := by omega
                    go_wp2_with fail
                    refine ⟨⟨o + 1, by omega, by simp, HS7.out.quiet HX.out⟩, by simp [intOf]; omega⟩
              · have t1 : ¬ (o : Int) < 3 := by omega
                go_wp2_with fail
                go_ret
                exact ⟨by simp, C0.out.falls HSo.out.chg⟩
set_option maxRecDepth 100000 in
set_option maxHeartbeats 8000000 in
theorem stamps_walk0 (pt : Option Addr) (ct cp : Nat) (L : List ThrV) (picks : List Int) (cut : Int) (w : World) (hT : ThsAt w pt L) (hP : IReads w none picks) (hcp : picks.length ≤ cp) (hcp0 : Hid (cp = 0)) (hn0 : L.length ≤ 1048576) (hn1 : picks.length ≤ 1048576) :
    Calls Try.prog 3 #[.agg #[.slice pt L.length ct, .slice none picks.length cp], .int .i64 cut] w fun e w' => e = .returned (.bool true) ∧ Chg (fun _ => False) w w' := by
  have HT := keepH hT
  have HP := keepH hP
  clear hT hP
  obtain ⟨z, n, hz, hnl, hrem⟩ := rem_cut cut picks.length hn1
  obtain ⟨W0, hW0⟩ : ∃ W0, W0 = w.alloc (.cells #[.slice pt L.length ct, .slice none picks.length cp] 25) := ⟨_, rfl⟩
  have C0 : Hid (Chg (fun _ => False) w W0) := by rw [hW0]; exact (Chg.refl _ _).alloc _
  have sz0 : Hid (W0.heap.size = w.heap.size + 1) := by rw [hW0]; simp [Hid]
  have hb0 : Hid (W0.heap[w.heap.size]? = some (.cells #[.slice pt L.length ct, .slice none picks.length cp] 25 (0, 0))) := by rw [hW0]; exact heap_alloc_new _ _
  have wl : IntKind.i64.wrap ((picks.length : Int) + 1) = ((picks.length + 1 : Nat) : Int) := by rw [IntKind.wrap_i64]; omega
  have wl2 : IntKind.u64.wrap ((picks.length + 1 : Nat) : Int) = ((picks.length + 1 : Nat) : Int) := by rw [IntKind.wrap_u64]; omega
  have wn : IntKind.i64.wrap (n : Int) = (n : Int) := by rw [IntKind.wrap_i64]; omega
  have wn64 : wrap64 (n : Int) = (n : Int) := by unfold wrap64; omega
  have hmod : (z : Int) % ((picks.length : Int) + 1) = (n : Int) := by have h := hrem; rw [Int.tmod_eq_emod_of_nonneg (by omega)] at h; simpa using h
  have HWL := keepH wl
  go_enter Try.func3, Try.ntmps3
  go_wp2_with fail
  rw [← hW0]
  clear hW0
  refine (mem_16k W0).mono ?_
  rintro e W1 ⟨rfl, M1, ⟨F, l, B1, hl1, hF1, nm1⟩, C1⟩
  have HM1 := keepH M1
  have HB1 := keepH B1
  have HF1 := keepH hF1
  have HN1 := keepH nm1
  have HC1 := keepH C1
  have HL1 := keepH hl1
  clear M1 B1 hF1 nm1 C1 hl1
  obtain ⟨m, hm⟩ : ∃ m, m = W0.heap.size + 1 := ⟨_, rfl⟩
  obtain ⟨b, hb⟩ : ∃ b, b = W0.heap.size := ⟨_, rfl⟩
  have Hm : Hid (m = w.heap.size + 2) := by show m = _; have := sz0.out; omega
  rw [← hm, ← hb] at HM1
  rw [← hm] at HN1
  rw [← hb] at HB1
  rw [← hm]
  clear hm hb
  go_wp2_with fail
  refine (vc_live _).mono ?_
  rintro e W2 ⟨rfl, C2⟩
  have HM2 := keepH (HM1.out.chg C2 (fun x => x))
  have HB2 := keepH (HB1.out.chg C2 (fun _ _ x => x))
  have HC2 : Hid (Chg (fun _ => False) W0 W2) := HC1.out.falls C2
  have hb2 : Hid (W2.heap[w.heap.size]? = some (.cells #[.slice pt L.length ct, .slice none picks.length cp] 25 (0, 0))) := (HC2.out.block _ (lt_of hb0.out) (fun x => x)).trans hb0.out
  have x0 : W2.cell? ⟨w.heap.size, 0, none⟩ = some (.slice pt L.length ct) := cell_of hb2.out 0
  have x1 : W2.cell? ⟨w.heap.size, 1, none⟩ = some (.slice none picks.length cp) := cell_of hb2.out 1
  clear C2 HM1 HB1
  go_wp2_with fail
  refine (v_honest pt none ct picks.length cp L W2 (HT.out.chg (C0.out.falls HC2.out)) hn0).mono ?_
  rintro e W3 ⟨rfl, C3⟩
  have HC3 : Hid (Chg (fun _ => False) W0 W3) := HC2.out.falls C3
  have HM3 := keepH (HM2.out.chg C3 (fun x => x))
  have HB3 := keepH (HB2.out.chg C3 (fun _ _ x => x))
  have hb3 : Hid (W3.heap[w.heap.size]? = some (.cells #[.slice pt L.length ct, .slice none picks.length cp] 25 (0, 0))) := (HC3.out.block _ (lt_of hb0.out) (fun x => x)).trans hb0.out
  have y0 : W3.cell? ⟨w.heap.size, 0, none⟩ = some (.slice pt L.length ct) := cell_of hb3.out 0
  have y1 : W3.cell? ⟨w.heap.size, 1, none⟩ = some (.slice none picks.length cp) := cell_of hb3.out 1
  clear C3 HM2 HB2 x0 x1 hb2
  cases hh : honB L
  · go_wp2_with fail
    go_ret
    exact ⟨by simp, C0.out.falls HC3.out⟩
  · obtain ⟨hk, h64, h4k⟩ := honB_out hh
    have hm0 : W0.heap.size ≤ m := by have := Hm.out; have := sz0.out; omega
    have hl16 : l.length ≤ 16 := by rw [HL1.out]; omega
    have HRun := keepH (run_part0 pt ct cp L picks n W0 W3 m b F l HC3.out (HT.out.chg C0.out) (HP.out.chg C0.out) hnl hn1 HM3.out HB3.out hl16 HF1.out hm0 HN1.out hk h64 h4k)
    have hncp : n ≤ cp := Nat.le_trans hnl hcp
    have icp : (n : Int) ≤ (cp : Int) := Int.ofNat_le.2 hncp
    have inl : (n : Int) ≤ (picks.length : Int) := Int.ofNat_le.2 hnl
    have i0n : (0 : Int) ≤ (n : Int) := Int.natCast_nonneg n
    clear hk h64 h4k hm0 hl16
    go_upto_region 7 with fail
    clear hmod hrem wl wl2 hz wn
    go_cut [9] from 40 to 52 (fun s9 wz => ∃ r R cl vb pv c0 Z qv sv, s9 = .pointer (some ⟨r, 0, none⟩) ∧ Hid (RE W0 m b R picks n 5 [0, 1, 0, 0, 0] (fun _ => []) wz sv r cl vb pv c0 Z qv))
    case first =>
      have hS0 : W3.drew.cell? ⟨w.heap.size, 0, none⟩ = some (.slice pt L.length ct) ∧ W3.drew.cell? ⟨w.heap.size, 1, none⟩ = some (.slice none picks.length cp) := ⟨y0, y1⟩
      refine wp_region_held_drew (S := (fun wd => wd.cell? ⟨w.heap.size, 0, none⟩ = some (.slice pt L.length ct) ∧ wd.cell? ⟨w.heap.size, 1, none⟩ = some (.slice none picks.length cp))) (by kernel_rfl) (hS0) ?_
      intro hHeld
      refine wpAnyH_take (i := 0) (v := ?_) rfl (by kernel_rfl) (by kernel_rfl) (by kernel_rfl) (fun _ _ _ h => h) (Or.inl ⟨by rfl, ?_⟩) hHeld ?_
      rotate_left
      · intro w hSw
        (try dsimp only at hSw)
        go_simp
        try with_reducible rfl
      (try simp only [Act.put]); (try simp only [List.setIfInBounds_toArray]); (repeat (first | simp only [List.set_cons_succ] | simp only [List.set_cons_zero]))
      refine wpAnyH_take (i := 1) (v := ?_) rfl (by kernel_rfl) (by kernel_rfl) (by kernel_rfl) (fun _ _ _ h => h) (Or.inl ⟨by rfl, ?_⟩) hHeld ?_
      rotate_left
      · intro w hSw
        (try dsimp only at hSw)
        go_simp
        try with_reducible rfl
      (try simp only [Act.put]); (try simp only [List.setIfInBounds_toArray]); (repeat (first | simp only [List.set_cons_succ] | simp only [List.set_cons_zero]))
      refine wpAnyH_take (i := 2) (v := ?_) rfl (by kernel_rfl) (by kernel_rfl) (by kernel_rfl) (fun _ _ _ h => h) (Or.inl ⟨by rfl, ?_⟩) hHeld ?_
      rotate_left
      · intro w hSw
        (try dsimp only at hSw)
        go_simp
        try with_reducible rfl
      (try simp only [Act.put]); (try simp only [List.setIfInBounds_toArray]); (repeat (first | simp only [List.set_cons_succ] | simp only [List.set_cons_zero]))
      refine wpAnyH_take (i := 3) (v := ?_) rfl (by kernel_rfl) (by kernel_rfl) (by kernel_rfl) (fun _ _ _ h => h) (Or.inl ⟨by rfl, ?_⟩) hHeld ?_
      rotate_left
      · intro w hSw
        (try dsimp only at hSw)
        go_simp
        try with_reducible rfl
      (try simp only [Act.put]); (try simp only [List.setIfInBounds_toArray]); (repeat (first | simp only [List.set_cons_succ] | simp only [List.set_cons_zero]))
      refine wpAnyH_take (i := 4) (v := ?_) rfl (by kernel_rfl) (by kernel_rfl) (by kernel_rfl) (fun _ _ _ h => h) (Or.inl ⟨by rfl, ?_⟩) hHeld ?_
      rotate_left
      · intro w hSw
        (try dsimp only at hSw)
        go_simp
        try with_reducible rfl
      (try simp only [Act.put]); (try simp only [List.setIfInBounds_toArray]); (repeat (first | simp only [List.set_cons_succ] | simp only [List.set_cons_zero]))
      refine wpAnyH_take (i := 5) (v := ?_) rfl (by kernel_rfl) (by kernel_rfl) (by kernel_rfl) (fun _ _ _ h => h) (Or.inl ⟨by rfl, ?_⟩) hHeld ?_
      rotate_left
      · intro w hSw
        (try dsimp only at hSw)
        go_simp
        try with_reducible rfl
      (try simp only [Act.put]); (try simp only [List.setIfInBounds_toArray]); (repeat (first | simp only [List.set_cons_succ] | simp only [List.set_cons_zero]))
      refine wpAnyH_take (i := 6) (v := ?_) rfl (by kernel_rfl) (by kernel_rfl) (by kernel_rfl) (fun _ _ _ h => h) (Or.inl ⟨by rfl, ?_⟩) hHeld ?_
      rotate_left
      · intro w hSw
        (try dsimp only at hSw)
        go_simp
        try with_reducible rfl
      (try simp only [Act.put]); (try simp only [List.setIfInBounds_toArray]); (repeat (first | simp only [List.set_cons_succ] | simp only [List.set_cons_zero]))
      refine wpAnyH_take (i := 7) (v := ?_) rfl (by kernel_rfl) (by kernel_rfl) (by kernel_rfl) (fun _ _ _ h => h) (Or.inl ⟨by rfl, ?_⟩) hHeld ?_
      rotate_left
      · intro w hSw
        (try dsimp only at hSw)
        go_simp
        try with_reducible rfl
      (try simp only [Act.put]); (try simp only [List.setIfInBounds_toArray]); (repeat (first | simp only [List.set_cons_succ] | simp only [List.set_cons_zero]))
      refine wpAnyH_take (i := 8) (v := ?_) rfl (by kernel_rfl) (by kernel_rfl) (by kernel_rfl) (fun _ _ _ h => h) (Or.inl ⟨by rfl, ?_⟩) hHeld ?_
      rotate_left
      · intro w hSw
        (try dsimp only at hSw)
        go_simp
        try with_reducible rfl
      (try simp only [Act.put]); (try simp only [List.setIfInBounds_toArray]); (repeat (first | simp only [List.set_cons_succ] | simp only [List.set_cons_zero]))
      refine wpAnyH_ready (rs := [9]) (by kernel_rfl) (by simp) ?_
      refine AllReadyH.cons rfl (fun KK hKK => ?_) AllReadyH.nil
      go_simp
      go_at_call 10
      refine (HRun.out _ (by first | exact Chg.refl _ _ | exact (Chg.refl _ _).drew)).mono ?_
      rintro e w1 ⟨sv, r, R, cl, vb, pv, c0, Z, qv, rfl, hR, E⟩
      have HE := keepH E
      have hb9 : w1.heap[w.heap.size]? = some (.cells #[.slice pt L.length ct, .slice none picks.length cp] 25 (0, 0)) := (E.run.lt.block _ (lt_of hb0.out) (fun x => x)).trans hb0.out
      have hS5 : w1.cell? ⟨w.heap.size, 0, none⟩ = some (.slice pt L.length ct) ∧ w1.cell? ⟨w.heap.size, 1, none⟩ = some (.slice none picks.length cp) := ⟨cell_of hb9 0, cell_of hb9 1⟩
      clear E hR hb9
      try go_wp2_with fail
      refine hKK.out _ _ ?_ (fun hHeld => ?_)
      · exact hS5
      clear hKK KK
      (try simp only [Act.put]); (try simp only [List.setIfInBounds_toArray]); (repeat (first | simp only [List.set_cons_succ] | simp only [List.set_cons_zero]))
      refine wpAnyH_take (i := 10) (v := ?_) rfl (by kernel_rfl) (by kernel_rfl) (by kernel_rfl) (fun _ _ _ h => h) (Or.inl ⟨by rfl, ?_⟩) hHeld ?_
      rotate_left
      · intro w hSw
        (try dsimp only at hSw)
        go_simp
        try with_reducible rfl
      (try simp only [Act.put]); (try simp only [List.setIfInBounds_toArray]); (repeat (first | simp only [List.set_cons_succ] | simp only [List.set_cons_zero]))
      refine wpAnyH_take (i := 11) (v := ?_) rfl (by kernel_rfl) (by kernel_rfl) (by kernel_rfl) (fun _ _ _ h => h) (Or.inl ⟨by rfl, ?_⟩) hHeld ?_
      rotate_left
      · intro w hSw
        (try dsimp only at hSw)
        go_simp
        try with_reducible rfl
      (try simp only [Act.put]); (try simp only [List.setIfInBounds_toArray]); (repeat (first | simp only [List.set_cons_succ] | simp only [List.set_cons_zero]))
      refine wpAnyH_take (i := 12) (v := ?_) rfl (by kernel_rfl) (by kernel_rfl) (by kernel_rfl) (fun _ _ _ h => h) (Or.inl ⟨by rfl, ?_⟩) hHeld ?_
      rotate_left
      · intro w hSw
        (try dsimp only at hSw)
        go_simp
        try with_reducible rfl
      (try simp only [Act.put]); (try simp only [List.setIfInBounds_toArray]); (repeat (first | simp only [List.set_cons_succ] | simp only [List.set_cons_zero]))
      refine wpAnyH_take (i := 13) (v := ?_) rfl (by kernel_rfl) (by kernel_rfl) (by kernel_rfl) (fun _ _ _ h => h) (Or.inl ⟨by rfl, ?_⟩) hHeld ?_
      rotate_left
      · intro w hSw
        (try dsimp only at hSw)
        go_simp
        try with_reducible rfl
      (try simp only [Act.put]); (try simp only [List.setIfInBounds_toArray]); (repeat (first | simp only [List.set_cons_succ] | simp only [List.set_cons_zero]))
      refine wpAnyH_take (i := 14) (v := ?_) rfl (by kernel_rfl) (by kernel_rfl) (by kernel_rfl) (fun _ _ _ h => h) (Or.inl ⟨by rfl, ?_⟩) hHeld ?_
      rotate_left
      · intro w hSw
        (try dsimp only at hSw)
        go_simp
        try with_reducible rfl
      (try simp only [Act.put]); (try simp only [List.setIfInBounds_toArray]); (repeat (first | simp only [List.set_cons_succ] | simp only [List.set_cons_zero]))
      refine wpAnyH_done (by kernel_rfl) ?_ _
      go_simp
      try go_wp2_with fail
      go_meet
      exact ⟨r, R, cl, vb, pv, c0, Z, qv, sv, by first | rfl | trivial, HE⟩
    case rest =>
      obtain ⟨Wa, hWa⟩ : ∃ Wa, Wa = wc := ⟨_, rfl⟩
      subst hWa
      obtain ⟨r, R, cl, vb, pv, c0, Z, qv, sv, rfl, HE⟩ := hcut
      obtain ⟨ch1, own1, V1, E1⟩ := HE.out.ends
      obtain ⟨c1, hc1⟩ : ∃ c1, c1 = c0.run vcK 16384 R.length cl (picks.take n) := ⟨_, rfl⟩
      rw [← hc1] at V1 E1
      have HV1 := keepH V1
      have HE1 := keepH E1
      have HCc := keepH hc1
      clear V1 E1 hc1 y0 y1 HRun
      obtain ⟨g10, hg10⟩ : ∃ g, g = Wa.heap.size := ⟨_, rfl⟩
      obtain ⟨W5, hW5⟩ : ∃ W5, W5 = Wa.alloc (.cells #[.slice none 0 0, .slice none 0 0, .slice none 0 0] 38) := ⟨_, rfl⟩
      have HF5 : Hid (FS Wa W5 g10 c1.cs 0 (fun _ => .slice none 0 0) (fun _ => 0)) := by
        rw [hW5, hg10]
        exact ⟨(Chg.refl _ _).alloc _, heap_alloc_new _ _, Nat.le_refl _, fun i hi => by omega, fun i hi => by omega, fun i k hi => by omega⟩
      go_wp2_with fail
      rw [← hW5, ← hg10]
      clear hW5 hg10
      go_loopw [11] (fun s wr => ∃ (o : Nat) (v : Nat → Value) (K : Nat → Nat), o ≤ 3 ∧ s = .int .i64 (o : Int) ∧ Hid (FS Wa wr g10 c1.cs o v K)) (fun s _ => 3 - (intOf s).toNat)
      case atStart => exact ⟨0, _, _, by omega, rfl, HF5⟩
      case round =>
        obtain ⟨o, v, K, ho3, rfl, HFo⟩ := hrel
        by_cases hlt : o < 3
        · have t1 : (o : Int) < 3 := by omega
          obtain ⟨o2, ho2⟩ : ∃ o2, o2 = o + 2 := ⟨_, rfl⟩
          have k1 : IntKind.u64.wrap (o : Int) = (o : Int) := by rw [IntKind.wrap_u64]; omega
          have k2 : IntKind.u64.wrap ((o : Int) + 2) = (o2 : Int) := by rw [IntKind.wrap_u64]; omega
          have k3 : (o : Int) + 2 = (o2 : Int) := by omega
          have hIo : isO (o + 2) := ⟨by omega, by omega⟩
          obtain ⟨F6, l6, B6, _⟩ := (HE1.out.quiet HFo.out.chg).bank
          have HB6 := keepH B6
          have HO2 := keepH ho2
          have ho64 : o2 < 18446744073709551616 := by omega
          clear B6 ho2
          go_wp2_with fail
          refine (versions_any m b 16384 c1.next o2 F6 c1.cs l6 _ (HE1.out.quiet HFo.out.chg).mem HB6.out ho64 (by omega)).mono ?_
          rintro e W7 ⟨Kn, u, rfl, St7, V7⟩
          rw [HO2.out] at St7 V7
          have HF8 := keepH (HFo.out.more hlt V7 St7)
          have cc : W7.cell? ⟨g10, o, none⟩ = some (v o) := (HFo.out.quiet V7.chg).cell o hlt
          have ff : W7.frozen? ⟨g10, o, none⟩ = false := free_of (HFo.out.quiet V7.chg).arr o
          have HS7 := keepH St7
          have hKn : Kn ≤ 16384 := St7.1
          obtain ⟨pu, cu, hu⟩ := slice_of V7.row
          subst hu
          clear St7 V7
          go_wp2_with fail
          have HRw : Hid ((W7.setCell ⟨g10, o, none⟩ (.slice pu Kn cu)).ownsRow 0 43 2 (.slice pu Kn cu) Kn (verRow c1.cs (o + 2) Kn)) := by have z := HF8.out.row o (by omega); rw [updN_same, updN_same] at z; exact z
          refine (v_falls c1.cs (o + 2) Kn _ _ HRw.out hKn (HV1.out.inv.gi.fallsR hIo HS7.out)).mono ?_
          rintro e W9 ⟨rfl, C9⟩
          have HC9 := keepH C9
          clear C9
          go_wp2_with fail
          refine ⟨⟨o + 1, _, _, by omega, by simp, HF8.out.quiet HC9.out⟩, by simp [intOf]; omega⟩
        · have t1 : ¬ (o : Int) < 3 := by omega
          obtain rfl : o = 3 := by omega
          have bx : wr.heap[w.heap.size]? = some (.cells #[.slice pt L.length ct, .slice none picks.length cp] 25 (0, 0)) := (((HE1.out.quiet HFo.out.chg).chg).block _ (lt_of hb0.out) (fun x => x)).trans hb0.out
          have bx1 : wr.cell? ⟨w.heap.size, 1, none⟩ = some (.slice none picks.length cp) := cell_of bx 1
          clear bx
          have HG0 := keepH (HE.out.run.rebase HFo.out.chg)
          have hdl : (picks.drop n).length = picks.length - n := List.length_drop ..
          go_upto_region 17 with fail
          go_cut [] from 71 to 76 (fun wz => Hid (GRun vcK 16384 m b R.length cl vb pv c0 W0 wr wz (fun j => Wa.heap.size ≤ j ∧ j < wr.heap.size) r picks picks.length))
          case first =>
            have HRn : Hid (∀ (p : Option Addr) (c k : Nat), k = picks.length - n → IReads w p (picks.drop n) → Calls Try.prog 13 #[.pointer (some ⟨r, 0, none⟩), .slice p k c] wr fun e X' => e = .returned (.tuple #[]) ∧ GRun vcK 16384 m b R.length cl vb pv c0 W0 wr X' (fun j => Wa.heap.size ≤ j ∧ j < wr.heap.size) r picks picks.length) := fun p c k hk hp => by
              subst hk
              have q := gr_run (l := picks.drop n) (k0 := n) p c HG0.out (hp.chg C0.out) (fun i x h => by rw [List.getElem?_drop] at h; exact h) (by rw [hdl]; omega)
              rw [hdl, show n + (picks.length - n) = picks.length by omega] at q
              exact q
            by_cases hcn : cp = n
            · have hle : picks.drop n = [] := List.drop_eq_nil_of_le (by omega)
              have HLe := keepH hle
              clear hle
              subst hcn
              go_wp2_with fail
              refine (HRn.out _ _ _ (by omega) (by rw [HLe.out]; exact .inl rfl)).mono ?_
              rintro e w9 ⟨rfl, G9⟩
              have HG9 := keepH G9
              clear G9
              go_wp2_with fail
              go_meet
              exact HG9
            · exfalso; have := hcp0.out; omega
          case rest =>
            have HS9 := keepH (HFo.out.later hcut.out)
            have HTw := keepH (HV1.out.inv.two HCc.out (fun i hi => HFo.out.st i hi))
            obtain ⟨c2, hc2⟩ : ∃ c2, c2 = c0.run vcK 16384 R.length cl (picks.take picks.length) := ⟨_, rfl⟩
            rw [← hc2] at HS9 HTw
            clear hcut hc2 HE HE1 HV1 HCc HG0 hdl HFo bx1
            go_wp2_with fail
            go_loopw [12] (fun s wy => ∃ o : Nat, o ≤ 3 ∧ s = .int .i64 (o : Int) ∧ Hid (SS W0 wy m b g10 c1.cs c2 v K)) (fun s _ => 3 - (intOf s).toNat)
            case atStart => exact ⟨0, by omega, rfl, HS9⟩
            case round =>
              obtain ⟨o, ho3, rfl, HSo⟩ := hrel
              by_cases hlt : o < 3
              · have t1 : (o : Int) < 3 := by omega
                obtain ⟨o2, ho2⟩ : ∃ o2, o2 = o + 2 := ⟨_, rfl⟩
                have k1 : IntKind.u64.wrap (o : Int) = (o : Int) := by rw [IntKind.wrap_u64]; omega
                have k2 : IntKind.u64.wrap ((o : Int) + 2) = (o2 : Int) := by rw [IntKind.wrap_u64]; omega
                have k3 : (o : Int) + 2 = (o2 : Int) := by omega
                obtain ⟨F6, l6, B6⟩ := HSo.out.bank
                have HB6 := keepH B6
                have HO2 := keepH ho2
                have ho64 : o2 < 18446744073709551616 := by omega
                clear B6 ho2
                go_wp2_with fail
                refine (versions_any m b 16384 c2.next o2 F6 c2.cs l6 _ HSo.out.mem HB6.out ho64 (by omega)).mono ?_
                rintro e W7 ⟨Kn, u, rfl, St7, V7⟩
                rw [HO2.out] at St7 V7
                obtain ⟨f1, f2, f3⟩ := HTw.out o Kn hlt St7
                have HF1 := keepH f1
                have HF3 := keepH f3
                have HS7 := keepH (HSo.out.quiet V7.chg)
                have hKn : Kn ≤ 16384 := St7.1
                obtain ⟨pu, cu, hu⟩ := slice_of V7.row
                subst hu
                have HRV := keepH V7.row
                have HRo := keepH (HS7.out.row o hlt)
                obtain ⟨pf, cf, hf⟩ := slice_of HRo.out
                have HCf : Hid (W7.cell? ⟨g10, o, none⟩ = some (.slice pf (K o) cf)) := by rw [← hf]; exact HS7.out.cell o hlt
                rw [hf] at HRo
                obtain ⟨Ko, hKo⟩ : ∃ Ko, Ko = K o := ⟨_, rfl⟩
                rw [← hKo] at HRo HCf HF3 f2
                have cc := HCf.out
                obtain ⟨kk, hkk⟩ : ∃ kk, kk = Kn - Ko := ⟨_, rfl⟩
                rw [← hkk] at HF3
                have wk : IntKind.i64.wrap ((Kn : Int) - (Ko : Int)) = (kk : Int) := by rw [IntKind.wrap_i64]; omega
                have wk2 : (Kn : Int) - (Ko : Int) = (kk : Int) := by omega
                have k0 : ¬ (kk : Int) < 0 := by omega
                have HKk : Hid (Ko + kk = Kn) := by show Ko + kk = Kn; omega
                clear hKo hf St7 V7 f1 f3 hkk f2
                go_wp2_with fail
                refine (v_falls c2.cs (o + 2) Kn _ _ HRV.out hKn HF1.out).mono ?_
                rintro e W9 ⟨rfl, C9⟩
                have HC9 := keepH C9
                clear C9
                go_wp2_with fail
                go_loopw [15] (fun s wx => ∃ i : Nat, i ≤ Ko ∧ s = .int .i64 (i : Int) ∧ Hid (Chg (fun _ => False) W7 wx)) (fun s _ => Ko - (intOf s).toNat)
                case atStart => exact ⟨0, by omega, rfl, HC9⟩
                case round =>
                  obtain ⟨i, hi, rfl, HX⟩ := hrel
                  have cc : wr.cell? ⟨g10, o, none⟩ = some (.slice pf Ko cf) := cell_chg HX.out HCf.out (fun x => x)
                  by_cases hi2 : i < Ko
                  · have t2 : (i : Int) < (Ko : Int) := by omega
                    obtain ⟨gf, df, ef⟩ := slice_pos HRo.out (by omega)
                    simp only [Value.slice.injEq] at ef
                    obtain ⟨rfl, _, rfl⟩ := ef
                    have hk := HKk.out
                    obtain ⟨gu, du, eu⟩ := slice_pos HRV.out (by omega)
                    simp only [Value.slice.injEq] at eu
                    obtain ⟨rfl, _, rfl⟩ := eu
                    have RA := row_kept (W' := wr) HRo.out (fun g e => HX.out.block g (row_lt HRo.out g e) (fun x => x))
                    have RB := row_kept (W' := wr) HRV.out (fun g e => HX.out.block g (row_lt HRV.out g e) (fun x => x))
                    obtain ⟨a1, a2⟩ := verRow_get c1.cs (o + 2) Ko i hi2
                    obtain ⟨b1, b2⟩ := verRow_get c2.cs (o + 2) Kn (kk + i) (by omega)
                    obtain ⟨e1, e2⟩ := HF3.out i hi2
                    rw [e1] at b1
                    obtain ⟨xa, hxa⟩ : ∃ x, x = cellN c1.cs (hN c1.cs (o + 2) i) := ⟨_, rfl⟩
                    obtain ⟨ya, hya⟩ : ∃ x, x = cellN c1.cs (hN c1.cs (o + 2) i + 1) := ⟨_, rfl⟩
                    obtain ⟨yb, hyb⟩ : ∃ x, x = cellN c2.cs (hN c2.cs (o + 2) (kk + i) + 1) := ⟨_, rfl⟩
                    rw [← hxa] at a1 b1
                    rw [← hya] at a2 e2
                    rw [← hyb] at b2 e2
                    obtain ⟨j, hj⟩ : ∃ j, j = kk + i := ⟨_, rfl⟩
                    rw [← hj] at b1 b2
                    have ca0 : wr.cell? ⟨gf, i * 2, none⟩ = some (.int .u64 (xa : Int)) := by rw [Nat.mul_comm i 2]; exact ver_cell RA _ _ a1
                    have ca1 : wr.cell? ⟨gf, i * 2 + 1, none⟩ = some (.int .u64 (ya : Int)) := by rw [Nat.mul_comm i 2]; exact ver_cell RA _ _ a2
                    have cb0 : wr.cell? ⟨gu, j * 2, none⟩ = some (.int .u64 (xa : Int)) := by rw [Nat.mul_comm j 2]; exact ver_cell RB _ _ b1
                    have cb1 : wr.cell? ⟨gu, j * 2 + 1, none⟩ = some (.int .u64 (yb : Int)) := by rw [Nat.mul_comm j 2]; exact ver_cell RB _ _ b2
                    have wj : IntKind.i64.wrap ((kk : Int) + (i : Int)) = (j : Int) := by rw [IntKind.wrap_i64]; omega
                    have wj2 : (kk : Int) + (i : Int) = (j : Int) := by omega
                    have tj : (j : Int) < (Kn : Int) := by omega
                    have HE2 := keepH e2
                    have q1 : ∀ o (p : Addr) v, wr.cell? p = some v → (wr.alloc o).cell? p = some v := fun o p v h => cell_chg ((Chg.refl (fun _ => False) wr).alloc o) h (fun x => x)
                    have q2 : ∀ o o' (p : Addr) v, wr.cell? p = some v → ((wr.alloc o).alloc o').cell? p = some v := fun o o' p v h => cell_chg (((Chg.refl (fun _ => False) wr).alloc o).alloc o') h (fun x => x)
                    have ccA := fun o => q1 o _ _ cc
                    have ccB := fun o o' => q2 o o' _ _ cc
                    have ca0A := fun o => q1 o _ _ ca0
                    have ca0B := fun o o' => q2 o o' _ _ ca0
                    have ca1A := fun o => q1 o _ _ ca1
                    have ca1B := fun o o' => q2 o o' _ _ ca1
                    have cb0A := fun o => q1 o _ _ cb0
                    have cb0B := fun o o' => q2 o o' _ _ cb0
                    have cb1A := fun o => q1 o _ _ cb1
                    have cb1B := fun o o' => q2 o o' _ _ cb1
                    clear q1 q2
                    clear RA RB a1 a2 b1 b2 e1 e2 hxa hya hyb hj hk
                    go_upto_region 28 with fail
                    go_cut [16, 17] from 108 to 119 (fun s16 s17 wz => ∃ p q : Nat, s16 = .pointer (some ⟨p, 0, none⟩) ∧ s17 = .pointer (some ⟨q, 0, none⟩) ∧ Hid (Chg (fun _ => False) wr wz) ∧ wz.heap[p]? = some (.cells #[.int .u64 (xa : Int), .int .u64 (ya : Int)] 43 (0, 0)) ∧ wz.heap[q]? = some (.cells #[.int .u64 (xa : Int), .int .u64 (yb : Int)] 43 (0, 0)))
                    case first =>
                      go_big_region
                      · try go_wp2_with fail
                        go_meet
                        obtain ⟨n1, n2, n3⟩ := two_new wr (.cells #[.int .u64 (xa : Int), .int .u64 (ya : Int)] 43) (.cells #[.int .u64 (xa : Int), .int .u64 (yb : Int)] 43)
                        exact ⟨_, _, rfl, rfl, n1, n2, n3⟩
                      · try go_wp2_with fail
                        go_meet
                        obtain ⟨n1, n2, n3⟩ := two_new wr (.cells #[.int .u64 (xa : Int), .int .u64 (yb : Int)] 43) (.cells #[.int .u64 (xa : Int), .int .u64 (ya : Int)] 43)
                        exact ⟨_, _, rfl, rfl, n1, n3, n2⟩
                    case rest =>
                      obtain ⟨p, q, rfl, rfl, HZ, hp, hq⟩ := hcut
                      have p0 : wc.cell? ⟨p, 0, none⟩ = some (.int .u64 (xa : Int)) := cell_of hp 0
                      have p1 : wc.cell? ⟨p, 1, none⟩ = some (.int .u64 (ya : Int)) := cell_of hp 1
                      have q0 : wc.cell? ⟨q, 0, none⟩ = some (.int .u64 (xa : Int)) := cell_of hq 0
                      have q1 : wc.cell? ⟨q, 1, none⟩ = some (.int .u64 (yb : Int)) := cell_of hq 1
                      clear hp hq ccA ccB ca0A ca0B ca1A ca1B cb0A cb0B cb1A cb1B
                      by_cases za : ya = 0
                      · subst za
                        go_wp2_with fail
                        refine ⟨⟨i + 1, by omega, by simp, HX.out.falls HZ.out⟩, by simp [intOf]; omega⟩
                      · have ea : ((ya : Int) != 0) = true := by simpa using za
                        have zi : ¬ (ya : Int) = 0 := by omega
                        have eb : yb = ya := HE2.out za
                        subst eb
                        go_wp2_with fail
                        refine ⟨⟨i + 1, by omega, by simp, HX.out.falls HZ.out⟩, by simp [intOf]; omega⟩
                  · have t2 : ¬ (i : Int) < (Ko : Int) := by omega
                    go_wp2_with fail
                    refine ⟨⟨o + 1, by omega, by simp, HS7.out.quiet HX.out⟩, by simp [intOf]; omega⟩
              · have t1 : ¬ (o : Int) < 3 := by omega
                go_wp2_with fail
                go_ret
                exact ⟨by simp, C0.out.falls HSo.out.chg⟩
open Go.RowKit Go.Shelf Go.ChangeShapes Go.WideShapes Go.ChangeAt
theorem pk_open {H : Type} {enc : TypeId × Value → H} {W : World} {sp : Nat → Bool} {held : Bool} {p : Option Addr} {n c : Nat} {d : DataW H} {ps : List MemPlace} (h : DataW.Trod enc Try.prog W 0 sp held 23 (.slice p n c) d ps) : (p = none ∧ n = 0 ∧ c = 0) ∨ ∃ a, p = some a ∧ n ≤ c := by
  obtain ⟨fuel, hf⟩ := h
  rcases open_ints Try.underlying23 Try.underlying3 coInt hf with ⟨hcs, _⟩ | ⟨a, len, cap, zs, hcs, _, hl, _⟩
  · simp [Value.cells] at hcs
    obtain ⟨rfl, rfl, rfl⟩ := hcs
    exact .inl ⟨rfl, rfl, rfl⟩
  · simp [Value.cells] at hcs
    obtain ⟨rfl, rfl, rfl⟩ := hcs
    exact .inr ⟨a, rfl, hl⟩
theorem run9_open2 {H : Type} {enc : TypeId × Value → H} {W : World} {sp : Nat → Bool} {held : Bool} {cs : Array Value} {d : DataW H} {ps : List MemPlace} (h : DataW.Trod enc Try.prog W 0 sp held 25 (.agg cs) d ps) (hM : Rows.uptoBulk d ≤ 1048576) :
    ∃ (pt : Option Addr) (ct : Nat) (L : List ThrV) (pp : Option Addr) (cp : Nat) (picks : List Int), cs = #[.slice pt L.length ct, .slice pp picks.length cp] ∧ ThsAt W pt L ∧ IReads W pp picks ∧ L.length ≤ 1048576 ∧ picks.length ≤ 1048576 ∧ ((pp = none ∧ picks.length = 0 ∧ cp = 0) ∨ ∃ a, pp = some a ∧ picks.length ≤ cp) := by
  obtain ⟨pt, ct, L, pp, cp, picks, hcs, hT, hP, hn0, hn1⟩ := run9_open h hM
  subst hcs
  refine ⟨pt, ct, L, pp, cp, picks, rfl, hT, hP, hn0, hn1, ?_⟩
  obtain ⟨fuel, hf⟩ := h
  obtain ⟨xs, n, hn, hx, hl, hlen, hh⟩ := DataW.trod_struct Try.underlying25 hf
  subst hn
  rw [coR] at hl
  obtain ⟨c0, c1, hc⟩ := list2 hl
  obtain ⟨y0, y1, rfl⟩ := list2 (show xs.length = 2 from hlen)
  rw [hc] at hh
  have h1 : DataW.trod enc Try.prog W 0 sp held n 23 [c1] = some y1 := by have := hh 1 _ rfl; simpa [coIs, coCss] using this
  have e1 : c1 = .slice pp picks.length cp := by simp [Value.cells] at hc; exact hc.2.symm
  subst e1
  exact pk_open (d := y1.1) (ps := y1.2) ⟨n, by simpa [Value.cells] using h1⟩
theorem stamps_any (pt pp : Option Addr) (ct cp : Nat) (L : List ThrV) (picks : List Int) (cut : Int) (w : World) (hT : ThsAt w pt L) (hP : IReads w pp picks) (hpk : (pp = none ∧ picks.length = 0 ∧ cp = 0) ∨ ∃ a, pp = some a ∧ picks.length ≤ cp) (hn0 : L.length ≤ 1048576) (hn1 : picks.length ≤ 1048576) :
    Calls Try.prog 3 #[.agg #[.slice pt L.length ct, .slice pp picks.length cp], .int .i64 cut] w fun e w' => e = .returned (.bool true) ∧ Chg (fun _ => False) w w' := by
  rcases hpk with ⟨rfl, h, hc⟩ | ⟨a, rfl, h⟩
  · exact stamps_walk0 pt ct cp L picks cut w hT hP (by omega) (keepH hc) hn0 hn1
  · exact stamps_walk pt a ct cp L picks cut w hT hP h hn0 hn1
end Go.Proofs.Ytadbgmcfjemkeaa
