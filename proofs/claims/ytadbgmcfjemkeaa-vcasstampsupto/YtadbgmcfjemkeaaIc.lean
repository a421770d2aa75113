/- VcasStamps: what is known of both looks. -/
import Derived.Test.YtadbgmcfjemkeaaIb
import Derived.Deep.RegionHeld3
namespace Go.Proofs.Ytadbgmcfjemkeaa
open Go.RowKit Go.Shelf
set_option linter.unusedVariables false

/-- Picks that come in, with the room behind them. -/
def PkAt (W : World) (p : Option Addr) (c : Nat) (l : List Int) : Prop := IReads W p l ∧ ((p = none ∧ l = [] ∧ c = 0) ∨ ∃ a, p = some a ∧ l.length ≤ c)
theorem rem_cut (cut : Int) (len : Nat) (hl : len ≤ 1048576) : ∃ z n : Nat, IntKind.u64.wrap cut = (z : Int) ∧ n ≤ len ∧ ((z : Int).tmod ((len + 1 : Nat) : Int)) = (n : Int) := by
  have h : 0 ≤ IntKind.u64.wrap cut := by rw [IntKind.wrap_u64]; omega
  obtain ⟨z, hz⟩ : ∃ z : Nat, IntKind.u64.wrap cut = (z : Int) := ⟨(IntKind.u64.wrap cut).toNat, by omega⟩
  refine ⟨z, z % (len + 1), hz, by have := Nat.mod_lt z (show 0 < len + 1 by omega); omega, ?_⟩
  rw [Int.tmod_eq_emod_of_nonneg (by omega)]
  omega
theorem IReads.take {W : World} {p : Option Addr} {l : List Int} (h : IReads W p l) (n : Nat) : IReads W p (l.take n) := by
  rcases h with rfl | ⟨bk, off, e, hb, h⟩
  · exact .inl (by simp)
  · exact .inr ⟨bk, off, e, hb, fun i x hx => h i x (by rw [List.getElem?_take] at hx; split at hx; exact hx; simp at hx)⟩
theorem IReads.drop {W : World} {a : Addr} {l : List Int} (h : IReads W (some a) l) (n : Nat) : IReads W (some (a.add n)) (l.drop n) := by
  rcases h with rfl | ⟨bk, off, e, hb, h⟩
  · exact .inl (by simp)
  · simp at e
    subst e
    refine .inr ⟨bk, off + n, ?_, hb, fun i x hx => ?_⟩
    · unfold Addr.add; split <;> simp_all
    · rw [Nat.add_assoc]; exact h (n + i) x (by rw [List.getElem?_drop] at hx; exact hx)
theorem run_split {P : Type} (κ : Kind P) (most T : Nat) (cl : Nat → Nat) (c : Cfg P) (picks : List Int) (n : Nat) : c.run κ most T cl (picks.take picks.length) = (c.run κ most T cl (picks.take n)).run κ most T cl (picks.drop n) := by
  unfold Cfg.run
  rw [← List.foldl_append, List.take_append_drop, List.take_length]
theorem run_part (pt : Option Addr) (a : Addr) (ct cp : Nat) (L : List ThrV) (picks : List Int) (n : Nat) (W0 W3 : World) (m b : Nat) (F : Nat → Prop) (l : List Acc)
    (hC : Chg (fun _ => False) W0 W3) (hT : ThsAt W0 pt L) (hP : IReads W0 (some a) picks) (hnl : n ≤ picks.length) (hln : picks.length ≤ 1048576) (hm : IsMem W3 m b) (hb : Bank W3 F b 16384 5 [0, 1, 0, 0, 0] l) (hll : l.length ≤ 16) (hF : ∀ k, F k → W0.heap.size ≤ k) (hmW : W0.heap.size ≤ m) (nm : ¬ F m) (hk : ∀ t ∈ L, ∀ k ∈ t.ks, 0 ≤ k.kind ∧ k.kind ≤ 3) (h64 : L.length ≤ 64) (h4k : ∀ t ∈ L, t.ks.length ≤ 4096) :
    ∀ w', Chg (fun _ => False) W3 w' → Calls Try.prog 10 #[.pointer (some ⟨m, 0, none⟩), .int .u64 1, .agg #[.slice pt L.length ct, .slice (some a) n cp]] w' fun e W' => ∃ sv r R cl vb pv c0 Z qv, e = .returned (.tuple #[sv, .pointer (some ⟨r, 0, none⟩)]) ∧ R.map ThrV.ks = L.map (fun t => t.ks.map CallV.pl) ∧ RE W0 m b R picks n 5 [0, 1, 0, 0, 0] (fun _ => []) W' sv r cl vb pv c0 Z qv := by
  intro w' cw
  have el : (picks.take n).length = n := by rw [List.length_take]; omega
  have hl : ∀ (i : Nat) (x : Int), (picks.take n)[i]? = some x → picks[i]? = some x := fun i x h => by
    rw [List.getElem?_take] at h
    split at h
    · exact h
    · simp at h
  have q := v_run pt (some a) ct cp L picks (picks.take n) W0 w' m b 5 F [0, 1, 0, 0, 0] l (fun _ => []) (hC.falls cw) hT (hP.take n) hl (by omega) (hm.chg cw (fun x => x)) (hb.chg cw (fun _ _ x => x)) hll hF hmW nm hk h64 h4k GI.first
  rw [el] at q
  exact q
theorem run_part0 (pt : Option Addr) (ct cp : Nat) (L : List ThrV) (picks : List Int) (n : Nat) (W0 W3 : World) (m b : Nat) (F : Nat → Prop) (l : List Acc)
    (hC : Chg (fun _ => False) W0 W3) (hT : ThsAt W0 pt L) (hP : IReads W0 none picks) (hnl : n ≤ picks.length) (hln : picks.length ≤ 1048576) (hm : IsMem W3 m b) (hb : Bank W3 F b 16384 5 [0, 1, 0, 0, 0] l) (hll : l.length ≤ 16) (hF : ∀ k, F k → W0.heap.size ≤ k) (hmW : W0.heap.size ≤ m) (nm : ¬ F m) (hk : ∀ t ∈ L, ∀ k ∈ t.ks, 0 ≤ k.kind ∧ k.kind ≤ 3) (h64 : L.length ≤ 64) (h4k : ∀ t ∈ L, t.ks.length ≤ 4096) :
    ∀ w', Chg (fun _ => False) W3 w' → Calls Try.prog 10 #[.pointer (some ⟨m, 0, none⟩), .int .u64 1, .agg #[.slice pt L.length ct, .slice none n cp]] w' fun e W' => ∃ sv r R cl vb pv c0 Z qv, e = .returned (.tuple #[sv, .pointer (some ⟨r, 0, none⟩)]) ∧ R.map ThrV.ks = L.map (fun t => t.ks.map CallV.pl) ∧ RE W0 m b R picks n 5 [0, 1, 0, 0, 0] (fun _ => []) W' sv r cl vb pv c0 Z qv := by
  intro w' cw
  have el : (picks.take n).length = n := by rw [List.length_take]; omega
  have hl : ∀ (i : Nat) (x : Int), (picks.take n)[i]? = some x → picks[i]? = some x := fun i x h => by
    rw [List.getElem?_take] at h
    split at h
    · exact h
    · simp at h
  have q := v_run pt none ct cp L picks (picks.take n) W0 w' m b 5 F [0, 1, 0, 0, 0] l (fun _ => []) (hC.falls cw) hT (hP.take n) hl (by omega) (hm.chg cw (fun x => x)) (hb.chg cw (fun _ _ x => x)) hll hF hmW nm hk h64 h4k GI.first
  rw [el] at q
  exact q
/-- Of two looks at one object: what the first told stands at the second's end. -/
theorem two_looks {n1 n2 : Nat} {cs cs' : List Nat} {ch ch' : Nat → List Nat} (h : GI n1 cs ch) (h' : GI n2 cs' ch') (g : Gr cs ch cs' ch') {o K K' : Nat} (ho : isO o) (S : Stops cs 16384 o K) (S' : Stops cs' 16384 o K') :
    K ≤ K' ∧ ∀ i, i < K → cellN cs' (hN cs' o (K' - K + i)) = cellN cs (hN cs o i) ∧ (cellN cs (hN cs o i + 1) ≠ 0 → cellN cs' (hN cs' o (K' - K + i) + 1) = cellN cs (hN cs o i + 1)) := by
  obtain ⟨e1, e2⟩ := h.stops ho S
  obtain ⟨f1, f2⟩ := h'.stops ho S'
  obtain ⟨pre, e⟩ := g.suf o ho
  have hl : K' = pre.length + K := by rw [f1, e, List.length_append, e1]
  refine ⟨by omega, fun i hi => ?_⟩
  have ha := List.getElem?_eq_getElem (show i < (ch o).length by omega)
  have hb : (ch' o)[K' - K + i]? = some ((ch o)[i]'(by omega)) := by
    rw [e, List.getElem?_append_right (by omega), show K' - K + i - pre.length = i by omega]
    exact ha
  rw [e2 i _ ha, f2 _ _ hb]
  obtain ⟨v1, _, v3⟩ := g.val o ho _ (List.mem_of_getElem? ha)
  exact ⟨v1, v3⟩
theorem GRun.fin {m b T : Nat} {cl : Nat → Nat} {vb : Nat → Nat} {pv : Nat → Nat → Value} {c0 : Cfg VP} {W Z X : World} {S : Nat → Prop} {r : Nat} {picks : List Int} {k : Nat} (h : GRun vcK 16384 m b T cl vb pv c0 W Z X S r picks k) : IsMem X m b ∧ (∃ F l, Bank X F b 16384 (c0.run vcK 16384 T cl (picks.take k)).next (c0.run vcK 16384 T cl (picks.take k)).cs l) ∧ Chg (fun _ => False) W X ∧ ∀ j, S j → X.heap[j]? = Z.heap[j]? := by
  obtain ⟨G, K, vw, tv, ev, av, ths, evs, ats, g⟩ := h
  obtain ⟨F, D, md, tg, M⟩ := g.ma
  obtain ⟨l, B, hl⟩ := M.bank
  exact ⟨M.mem, ⟨F, l, B⟩, g.chg, fun j hj => (g.keep j hj).2.1⟩
/-- The first looks, kept in an array of three. -/
structure FS (X0 X : World) (g : Nat) (cs : List Nat) (n : Nat) (v : Nat → Value) (K : Nat → Nat) : Prop where
  chg : Chg (fun _ => False) X0 X
  arr : X.heap[g]? = some (.cells #[v 0, v 1, v 2] 38 (0, 0))
  ge : X0.heap.size ≤ g
  row : ∀ i, i < n → X.ownsRow 0 43 2 (v i) (K i) (verRow cs (i + 2) (K i))
  st : ∀ i, i < n → Stops cs 16384 (i + 2) (K i)
  new : ∀ i k, i < n → (v i).ownBlock = some k → X0.heap.size ≤ k
theorem FS.more {X0 X Y : World} {g : Nat} {cs : List Nat} {n : Nat} {v : Nat → Value} {K : Nat → Nat} (h : FS X0 X g cs n v K) (hn : n < 3) {k : Nat} {u : Value} (V : VI cs (n + 2) X Y k u) (S : Stops cs 16384 (n + 2) k) : FS X0 (Y.setCell ⟨g, n, none⟩ u) g cs (n + 1) (updN v n u) (updN K n k) := by
  have aY : Y.heap[g]? = some (.cells #[v 0, v 1, v 2] 38 (0, 0)) := (V.chg.block g (lt_of h.arr) (fun x => x)).trans h.arr
  have sz := h.chg.size
  have hge := h.ge
  have oth : ∀ j, j ≠ g → (Y.setCell ⟨g, n, none⟩ u).heap[j]? = Y.heap[j]? := fun j hj => Below.heap_setCell _ _ _ _ hj
  have rY : ∀ {w : Value} {m : Nat} {xs : List Value}, Y.ownsRow 0 43 2 w m xs → (Y.setCell ⟨g, n, none⟩ u).ownsRow 0 43 2 w m xs := fun r => row_kept r fun j e => oth j (fun z => block_apart r aY (by decide) (by rw [← z]; exact e))
  refine ⟨(h.chg.falls V.chg).setCell (p := ⟨g, n, none⟩) (fun z => by simp only at z; omega) u, ?_, h.ge, fun i hi => ?_, fun i hi => ?_, fun i j hi e => ?_⟩
  · have z := set_of aY n u
    rw [z]
    obtain rfl | rfl | rfl : n = 0 ∨ n = 1 ∨ n = 2 := by omega
    · rfl
    · rfl
    · rfl
  · by_cases e : i = n
    · subst e; rw [updN_same, updN_same]; exact rY V.row
    · rw [updN_other _ _ _ _ e, updN_other _ _ _ _ e]
      have r := h.row i (by omega)
      exact rY (row_kept r fun j e => V.chg.block j (row_lt r j e) (fun x => x))
  · by_cases e : i = n
    · subst e; rw [updN_same]; exact S
    · rw [updN_other _ _ _ _ e]; exact h.st i (by omega)
  · by_cases c : i = n
    · subst c; rw [updN_same] at e; have := V.new j e; omega
    · rw [updN_other _ _ _ _ c] at e; exact h.new i j (by omega) e
theorem FS.quiet {X0 X Y : World} {g : Nat} {cs : List Nat} {n : Nat} {v : Nat → Value} {K : Nat → Nat} (h : FS X0 X g cs n v K) (c : Chg (fun _ => False) X Y) : FS X0 Y g cs n v K :=
  ⟨h.chg.falls c, (c.block g (lt_of h.arr) (fun x => x)).trans h.arr, h.ge, fun i hi => row_kept (h.row i hi) fun k e => c.block k (row_lt (h.row i hi) k e) (fun x => x), h.st, h.new⟩
theorem FS.cell {X0 X : World} {g : Nat} {cs : List Nat} {n : Nat} {v : Nat → Value} {K : Nat → Nat} (h : FS X0 X g cs n v K) (i : Nat) (hi : i < 3) : X.cell? ⟨g, i, none⟩ = some (v i) := by
  rw [cell_of h.arr i]
  obtain rfl | rfl | rfl : i = 0 ∨ i = 1 ∨ i = 2 := by omega
  · rfl
  · rfl
  · rfl
/-- What is there behind the second run: the first looks stand beside it. -/
structure SS (W0 X : World) (m b g : Nat) (cs1 : List Nat) (c2 : Cfg VP) (v : Nat → Value) (K : Nat → Nat) : Prop where
  chg : Chg (fun _ => False) W0 X
  mem : IsMem X m b
  bank : ∃ F l, Bank X F b 16384 c2.next c2.cs l
  arr : X.heap[g]? = some (.cells #[v 0, v 1, v 2] 38 (0, 0))
  row : ∀ i, i < 3 → X.ownsRow 0 43 2 (v i) (K i) (verRow cs1 (i + 2) (K i))
theorem SS.quiet {W0 X Y : World} {m b g : Nat} {cs1 : List Nat} {c2 : Cfg VP} {v : Nat → Value} {K : Nat → Nat} (h : SS W0 X m b g cs1 c2 v K) (c : Chg (fun _ => False) X Y) : SS W0 Y m b g cs1 c2 v K := by
  refine ⟨h.chg.falls c, h.mem.chg c (fun x => x), ?_, (c.block g (lt_of h.arr) (fun x => x)).trans h.arr, fun i hi => row_kept (h.row i hi) fun k e => c.block k (row_lt (h.row i hi) k e) (fun x => x)⟩
  obtain ⟨F, l, B⟩ := h.bank
  exact ⟨F, l, B.chg c (fun _ _ x => x)⟩
theorem SS.cell {W0 X : World} {m b g : Nat} {cs1 : List Nat} {c2 : Cfg VP} {v : Nat → Value} {K : Nat → Nat} (h : SS W0 X m b g cs1 c2 v K) (i : Nat) (hi : i < 3) : X.cell? ⟨g, i, none⟩ = some (v i) := by
  rw [cell_of h.arr i]
  obtain rfl | rfl | rfl : i = 0 ∨ i = 1 ∨ i = 2 := by omega
  · rfl
  · rfl
  · rfl
theorem FS.later {Wa X Y W0 : World} {g m b T r : Nat} {cs : List Nat} {v : Nat → Value} {K cl vb : Nat → Nat} {pv : Nat → Nat → Value} {c0 : Cfg VP} {picks : List Int} (h : FS Wa X g cs 3 v K) (G : GRun vcK 16384 m b T cl vb pv c0 W0 X Y (fun j => Wa.heap.size ≤ j ∧ j < X.heap.size) r picks picks.length) : SS W0 Y m b g cs (c0.run vcK 16384 T cl (picks.take picks.length)) v K := by
  obtain ⟨M, B, C, k⟩ := G.fin
  exact ⟨C, M, B, (k g ⟨h.ge, lt_of h.arr⟩).trans h.arr, fun i hi => row_kept (h.row i hi) fun j e => k j ⟨h.new i j hi e, row_lt (h.row i hi) j e⟩⟩
/-- Of both looks together. -/
def Two (cs1 cs2 : List Nat) (K : Nat → Nat) : Prop := ∀ o K', o < 3 → Stops cs2 16384 (o + 2) K' → FallsR cs2 (o + 2) K' ∧ K o ≤ K' ∧ ∀ i, i < K o → cellN cs2 (hN cs2 (o + 2) (K' - K o + i)) = cellN cs1 (hN cs1 (o + 2) i) ∧ (cellN cs1 (hN cs1 (o + 2) i + 1) ≠ 0 → cellN cs2 (hN cs2 (o + 2) (K' - K o + i) + 1) = cellN cs1 (hN cs1 (o + 2) i + 1))
theorem VInv.two {T : Nat} {cl : Nat → Nat} {c1 c0 : Cfg VP} {ch : Nat → List Nat} {own : Nat → Nat × Nat} {picks : List Int} {n : Nat} (h : VInv T cl c1 ch own) (hc : c1 = c0.run vcK 16384 T cl (picks.take n)) {K : Nat → Nat} (S : ∀ i, i < 3 → Stops c1.cs 16384 (i + 2) (K i)) : Two c1.cs (c0.run vcK 16384 T cl (picks.take picks.length)).cs K := by
  obtain ⟨ch2, own2, V⟩ := h.run (picks.drop n)
  rw [run_split (n := n), ← hc]
  intro o K' ho S'
  have hIo : isO (o + 2) := ⟨by omega, by omega⟩
  exact ⟨V.inv.gi.fallsR hIo S', two_looks h.gi V.inv.gi V.gr hIo (S o ho) S'⟩
theorem two_new (w : World) (a b : Obj) : Chg (fun _ => False) w ((w.alloc a).alloc b).drew ∧ ((w.alloc a).alloc b).drew.heap[w.heap.size]? = some a ∧ ((w.alloc a).alloc b).drew.heap[w.heap.size + 1]? = some b := by
  refine ⟨(((Chg.refl _ _).alloc a).alloc b).drew, ?_, ?_⟩
  · have e : (w.alloc a).heap[w.heap.size]? = some a := heap_alloc_new _ _
    exact ((((Chg.refl (fun _ => False) (w.alloc a)).alloc b).drew).block _ (lt_of e) (fun x => x)).trans e
  · have e : ((w.alloc a).alloc b).heap[(w.alloc a).heap.size]? = some b := heap_alloc_new _ _
    rw [show (w.alloc a).heap.size = w.heap.size + 1 by simp] at e
    exact e
end Go.Proofs.Ytadbgmcfjemkeaa
