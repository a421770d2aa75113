/- Two Loads, a thread each: what their steps do. -/
import Derived.Test.YtnhiodmigmmfgaaGreatR11Y5
import Derived.Test.YtnhiodmigmmfgaaGreatR4SNew
import Derived.Test.YtnhiodmigmmfgaaGreatR17PF
import Derived.Test.YtnhiodmigmmfgaaGreatR13YD
namespace Go.Proofs.YtnhiodmigmmfgaaGreat
open Go.RowKit Go.Shelf

def bN (d : Bool) : Nat := if d then 1 else 0
/-- A memory, two views, two Loads. -/
structure LSt (X : World) (F : Nat → Prop) (m b v0 v1 p0 p1 : Nat) (l : List Acc) (d0 d1 : Bool) (x0 x1 : Nat) : Prop where
  bank : Bank X F b 128 1 [] l
  mem : IsMem X m b
  w0 : IsView X v0 b 0 (bN d0)
  w1 : IsView X v1 b 1 (bN d1)
  q0 : IsLoad X p0 5 x0 d0
  q1 : IsLoad X p1 6 x1 d1
  nm : ¬ F m
  n0 : ¬ F v0
  n1 : ¬ F v1
  k0 : ¬ F p0
  k1 : ¬ F p1
  mv : m ≠ v0 ∧ m ≠ v1 ∧ m ≠ p0 ∧ m ≠ p1
  vv : v0 ≠ v1 ∧ v0 ≠ p0 ∧ v0 ≠ p1 ∧ v1 ≠ p0 ∧ v1 ≠ p1 ∧ p0 ≠ p1
def inK (F : Nat → Prop) (m v0 v1 p0 p1 : Nat) (k : Nat) : Prop := F k ∨ k = m ∨ k = v0 ∨ k = v1 ∨ k = p0 ∨ k = p1
def LS (m b v0 v1 p0 p1 : Nat) (n : Nat) (d0 d1 : Bool) (X : World) (K : Nat → Prop) : Prop := ∃ F l x0 x1, LSt X F m b v0 v1 p0 p1 l d0 d1 x0 x1 ∧ l.length = n ∧ K = inK F m v0 v1 p0 p1

theorem LS.keep {m b v0 v1 p0 p1 n : Nat} {d0 d1 : Bool} {X Y : World} {K : Nat → Prop} (h : LS m b v0 v1 p0 p1 n d0 d1 X K) (hs : X.heap.size ≤ Y.heap.size) (hk : ∀ k, K k → Y.heap[k]? = X.heap[k]?) : LS m b v0 v1 p0 p1 n d0 d1 Y K := by
  obtain ⟨F, l, x0, x1, h, hl, rfl⟩ := h
  exact ⟨F, l, x0, x1, { h with bank := h.bank.kept hs (fun k e => hk k (.inl e)), mem := (hk m (.inr (.inl rfl))).trans h.mem, w0 := (hk v0 (.inr (.inr (.inl rfl)))).trans h.w0, w1 := (hk v1 (.inr (.inr (.inr (.inl rfl))))).trans h.w1, q0 := (hk p0 (.inr (.inr (.inr (.inr (.inl rfl)))))).trans h.q0, q1 := (hk p1 (.inr (.inr (.inr (.inr (.inr rfl)))))).trans h.q1 }, hl, rfl⟩
theorem LS.lt {m b v0 v1 p0 p1 n : Nat} {d0 d1 : Bool} {X : World} {K : Nat → Prop} (h : LS m b v0 v1 p0 p1 n d0 d1 X K) (k : Nat) (hk : K k) : k < X.heap.size := by
  obtain ⟨F, l, x0, x1, h, hl, rfl⟩ := h
  obtain ⟨_, _, B⟩ := h.bank
  rcases hk with e | rfl | rfl | rfl | rfl | rfl
  · exact B.lt k e
  · exact h.mem.lt
  · exact h.w0.lt
  · exact h.w1.lt
  · exact lt_of h.q0
  · exact lt_of h.q1
theorem LS.mem {m b v0 v1 p0 p1 n : Nat} {d0 d1 : Bool} {X : World} {K : Nat → Prop} (h : LS m b v0 v1 p0 p1 n d0 d1 X K) : ∃ b F most next cs l, IsMem X m b ∧ Bank X F b most next cs l ∧ l.length = n ∧ (∀ k, F k → K k) ∧ K m := by
  obtain ⟨F, l, x0, x1, h, hl, rfl⟩ := h
  exact ⟨b, F, 128, 1, [], l, h.mem, h.bank, hl, fun k e => .inl e, .inr (.inl rfl)⟩

set_option maxRecDepth 100000 in
theorem ls_step1 {m b v0 v1 p0 p1 n : Nat} {d0 : Bool} (X : World) (K : Nat → Prop) (h : LS m b v0 v1 p0 p1 n d0 false X K) (hn : n < 1099511627776) :
    Calls Tryz.prog 35 #[.iface 73 (.pointer (some ⟨p1, 0, none⟩)), .pointer (some ⟨v1, 0, none⟩)] X fun e X' => ∃ d K', e = .returned (.bool d) ∧ (d = true ∧ LS m b v0 v1 p0 p1 (n + 1) d0 true X' K') ∧ Goes X X' K K' := by
  obtain ⟨F, l, x0, x1, h, hl, rfl⟩ := h
  obtain ⟨mv0, mv1, mp0, mp1⟩ := h.mv
  obtain ⟨a1, a2, a3, a4, a5, a6⟩ := h.vv
  have cA : Chg (fun _ => False) X (X.alloc (.cells #[.bool false] 4)) := (Chg.refl _ X).alloc _
  have hsz : (X.alloc (.cells #[.bool false] 4)).heap.size = X.heap.size + 1 := by simp
  obtain ⟨_, _, B0⟩ := h.bank
  have st := s_stepOf_load ⟨p1, 0, none⟩ (.pointer (some ⟨v1, 0, none⟩)) (fun d X1 => d = true ∧ ∃ F' vs, Bank X1 F' b 128 1 [] (l ++ [⟨1, 1, 6, 0, 0, vs, [], cellN [] 6, false⟩]) ∧ IsView X1 v1 b 1 1 ∧ IsLoad X1 p1 6 (cellN [] 6) true ∧ ¬ F' p1 ∧ ¬ F' v1 ∧ Chg (fun k => (F k ∨ k = v1) ∨ k = p1) (X.alloc (.cells #[.bool false] 4)) X1 ∧ ∀ k, F' k → F k ∨ X.heap.size + 1 ≤ k) X ?_
  · refine st.mono ?_
    rintro e X' ⟨d, X1, rfl, ⟨rfl, F', vs, B1, V1, L1, nf1, nf2, C1, N1⟩, hcell, rfl⟩
    have c2 : Chg (fun k => k = X.heap.size) X1 (X1.setCell ⟨X.heap.size, 0, none⟩ (.bool true)) := (Chg.refl (fun k => k = X.heap.size) X1).setCell (p := ⟨X.heap.size, 0, none⟩) (fun _ => rfl) _
    have cX : Chg (fun k => (F k ∨ k = v1) ∨ k = p1) X (X1.setCell ⟨X.heap.size, 0, none⟩ (.bool true)) := (cA.trans C1 (fun _ _ x => x.elim) (fun _ _ x => x)).trans c2 (fun _ _ x => x) (fun i hi x => by omega)
    have ne : ∀ z, z < X.heap.size → z ≠ X.heap.size := fun z hz => by omega
    have nF' : ∀ z, z < X.heap.size → ¬ F z → ¬ F' z := fun z hz hf e => (N1 z e).elim hf (fun e => by omega)
    have nFx : ¬ F' X.heap.size := fun e => (N1 _ e).elim (fun e => by have := B0.lt _ e; omega) (fun e => by omega)
    refine ⟨true, _, rfl, ⟨rfl, F', _, x0, _, ⟨B1.chg c2 (fun k e e2 => nFx (by rw [← e2]; exact e)), h.mem.chg cX (fun e => by rcases e with (e | e) | e; exact h.nm e; exact mv1 e; exact mp1 e), h.w0.chg cX (fun e => by rcases e with (e | e) | e; exact h.n0 e; exact a1 e; exact a3 e), V1.chg c2 (ne _ h.w1.lt), h.q0.chg cX (fun e => by rcases e with (e | e) | e; exact h.k0 e; exact a4 e.symm; exact a6 e), L1.chg c2 (ne _ (lt_of h.q1)), nF' _ h.mem.lt h.nm, nF' _ h.w0.lt h.n0, nf2, nF' _ (lt_of h.q0) h.k0, nf1, h.mv, h.vv⟩, by simp [hl], rfl⟩, ⟨cX.mono (fun k _ e => by rcases e with (e | e) | e; exact .inl e; exact .inr (.inr (.inr (.inl e))); exact .inr (.inr (.inr (.inr (.inr e))))), fun k e => ?_⟩⟩
    rcases e with e | e
    · exact (N1 k e).elim (fun e => .inl (.inl e)) (fun e => .inr (by omega))
    · exact .inl (.inr e)
  · refine (load_step p1 6 x1 v1 b 128 1 0 1 F [] l _ (h.q1.chg cA (fun h => h)) (h.w1.chg cA (fun h => h)) (h.bank.chg cA (fun _ _ h => h)) h.n1 h.k1 (fun e => a5 e.symm) (by omega) (by omega) (by omega)).mono ?_
    rintro e X1 ⟨rfl, F', vs, B1, V1, L1, nf1, nf2, C1, N1⟩
    refine ⟨true, rfl, ⟨rfl, F', vs, B1, V1, L1, nf1, nf2, C1, fun k e => by have := N1 k e; rw [hsz] at this; exact this⟩, ?_⟩
    exact (C1.block _ (by simp) (fun e => by
      rcases e with (e | e) | e
      · have := B0.lt _ e
        omega
      · have := h.w1.lt
        omega
      · have := lt_of h.q1
        omega)).trans (heap_alloc_new _ _)
set_option maxRecDepth 100000 in
theorem ls_step0 {m b v0 v1 p0 p1 n : Nat} {d1 : Bool} (X : World) (K : Nat → Prop) (h : LS m b v0 v1 p0 p1 n false d1 X K) (hn : n < 1099511627776) :
    Calls Tryz.prog 35 #[.iface 73 (.pointer (some ⟨p0, 0, none⟩)), .pointer (some ⟨v0, 0, none⟩)] X fun e X' => ∃ d K', e = .returned (.bool d) ∧ (d = true ∧ LS m b v0 v1 p0 p1 (n + 1) true d1 X' K') ∧ Goes X X' K K' := by
  obtain ⟨F, l, x0, x1, h, hl, rfl⟩ := h
  obtain ⟨mv0, mv1, mp0, mp1⟩ := h.mv
  obtain ⟨a1, a2, a3, a4, a5, a6⟩ := h.vv
  have cA : Chg (fun _ => False) X (X.alloc (.cells #[.bool false] 4)) := (Chg.refl _ X).alloc _
  have hsz : (X.alloc (.cells #[.bool false] 4)).heap.size = X.heap.size + 1 := by simp
  obtain ⟨_, _, B0⟩ := h.bank
  have st := s_stepOf_load ⟨p0, 0, none⟩ (.pointer (some ⟨v0, 0, none⟩)) (fun d X1 => d = true ∧ ∃ F' vs, Bank X1 F' b 128 1 [] (l ++ [⟨0, 1, 5, 0, 0, vs, [], cellN [] 5, false⟩]) ∧ IsView X1 v0 b 0 1 ∧ IsLoad X1 p0 5 (cellN [] 5) true ∧ ¬ F' p0 ∧ ¬ F' v0 ∧ Chg (fun k => (F k ∨ k = v0) ∨ k = p0) (X.alloc (.cells #[.bool false] 4)) X1 ∧ ∀ k, F' k → F k ∨ X.heap.size + 1 ≤ k) X ?_
  · refine st.mono ?_
    rintro e X' ⟨d, X1, rfl, ⟨rfl, F', vs, B1, V1, L1, nf1, nf2, C1, N1⟩, hcell, rfl⟩
    have c2 : Chg (fun k => k = X.heap.size) X1 (X1.setCell ⟨X.heap.size, 0, none⟩ (.bool true)) := (Chg.refl (fun k => k = X.heap.size) X1).setCell (p := ⟨X.heap.size, 0, none⟩) (fun _ => rfl) _
    have cX : Chg (fun k => (F k ∨ k = v0) ∨ k = p0) X (X1.setCell ⟨X.heap.size, 0, none⟩ (.bool true)) := (cA.trans C1 (fun _ _ x => x.elim) (fun _ _ x => x)).trans c2 (fun _ _ x => x) (fun i hi x => by omega)
    have ne : ∀ z, z < X.heap.size → z ≠ X.heap.size := fun z hz => by omega
    have nF' : ∀ z, z < X.heap.size → ¬ F z → ¬ F' z := fun z hz hf e => (N1 z e).elim hf (fun e => by omega)
    have nFx : ¬ F' X.heap.size := fun e => (N1 _ e).elim (fun e => by have := B0.lt _ e; omega) (fun e => by omega)
    refine ⟨true, _, rfl, ⟨rfl, F', _, _, x1, ⟨B1.chg c2 (fun k e e2 => nFx (by rw [← e2]; exact e)), h.mem.chg cX (fun e => by rcases e with (e | e) | e; exact h.nm e; exact mv0 e; exact mp0 e), V1.chg c2 (ne _ h.w0.lt), h.w1.chg cX (fun e => by rcases e with (e | e) | e; exact h.n1 e; exact a1 e.symm; exact a4 e), L1.chg c2 (ne _ (lt_of h.q0)), h.q1.chg cX (fun e => by rcases e with (e | e) | e; exact h.k1 e; exact a3 e.symm; exact a6 e.symm), nF' _ h.mem.lt h.nm, nf2, nF' _ h.w1.lt h.n1, nf1, nF' _ (lt_of h.q1) h.k1, h.mv, h.vv⟩, by simp [hl], rfl⟩, ⟨cX.mono (fun k _ e => by rcases e with (e | e) | e; exact .inl e; exact .inr (.inr (.inl e)); exact .inr (.inr (.inr (.inr (.inl e))))), fun k e => ?_⟩⟩
    rcases e with e | e
    · exact (N1 k e).elim (fun e => .inl (.inl e)) (fun e => .inr (by omega))
    · exact .inl (.inr e)
  · refine (load_step p0 5 x0 v0 b 128 1 0 0 F [] l _ (h.q0.chg cA (fun h => h)) (h.w0.chg cA (fun h => h)) (h.bank.chg cA (fun _ _ h => h)) h.n0 h.k0 (fun e => a2 e.symm) (by omega) (by omega) (by omega)).mono ?_
    rintro e X1 ⟨rfl, F', vs, B1, V1, L1, nf1, nf2, C1, N1⟩
    refine ⟨true, rfl, ⟨rfl, F', vs, B1, V1, L1, nf1, nf2, C1, fun k e => by have := N1 k e; rw [hsz] at this; exact this⟩, ?_⟩
    exact (C1.block _ (by simp) (fun e => by
      rcases e with (e | e) | e
      · have := B0.lt _ e
        omega
      · have := h.w0.lt
        omega
      · have := lt_of h.q0
        omega)).trans (heap_alloc_new _ _)
end Go.Proofs.YtnhiodmigmmfgaaGreat
/- What must be whatever is asked (package step). -/
namespace Go.Proofs.YtnhiodmigmmfgaaGreat
open Go.RowKit Go.Shelf

theorem row_of {W : World} {g n s : Nat} {cs : Array Value} {e : TypeId} (h : W.heap[g]? = some (.cells cs e (0, 0))) (hs : cs.size = n * s) (hn : n ≤ 1099511627776) : W.ownsRow 0 e s (.slice (some ⟨g, 0, none⟩) n n) n cs.toList :=
  ⟨by simpa using hs, .inr ⟨g, n, cs, rfl, Nat.zero_le _, h, Nat.le_refl _, by unfold maxLen; omega, hs, by rw [List.take_of_length_le]; simp; omega⟩⟩

def loadI (p : Nat) : Value := .iface 73 (.pointer (some ⟨p, 0, none⟩))
def twoL (p0 s0 p1 s1 : Nat) : List (Value × List Value) := [(.slice (some ⟨s0, 0, none⟩) 1 1, [loadI p0]), (.slice (some ⟨s1, 0, none⟩) 1 1, [loadI p1])]
theorem twoL_ok (p0 s0 p1 s1 : Nat) : tooLongB (twoL p0 s0 p1 s1) = false := by simp [tooLongB, twoL]

theorem two_of {α : Type} {l : List α} (h : l.length = 2) : ∃ a b, l = [a, b] := by
  match l, h with
  | [a, b], _ => exact ⟨a, b, rfl⟩

/-- A runner of two Loads that has had no pick. -/
theorem live_start {W6 W7 : World} {G : Nat → Prop} {r m b p0 s0 p1 s1 : Nat} {tv : Value} {ths : List Thr} {vbs : List Nat} (hm : IsMem W6 m b) (hb : Bank W6 (fun k => k = b) b 128 1 [] []) (q0 : IsLoad W6 p0 5 0 false) (q1 : IsLoad W6 p1 6 0 false) (h : Made W6 W7 G r m b tv (twoL p0 s0 p1 s1) ths vbs 2) (hl : ths.length = 2) (hd : m ≠ b ∧ p0 ≠ b ∧ p1 ≠ b ∧ m ≠ p0 ∧ m ≠ p1 ∧ p0 ≠ p1) :
    ∃ v0 v1 c0 c1 g c, vbs = [v0, v1] ∧ ths = [⟨c0, [loadI p0], 0, false⟩, ⟨c1, [loadI p1], 0, false⟩] ∧ tv = .slice (some ⟨g, 0, none⟩) 2 c ∧ LS m b v0 v1 p0 p1 0 false false W7 (inK (fun k => k = b) m v0 v1 p0 p1) ∧ (∀ k, G k → ¬ inK (fun k => k = b) m v0 v1 p0 p1 k) := by
  obtain ⟨v0, v1, rfl⟩ := two_of h.vl
  obtain ⟨t0, t1, rfl⟩ := two_of hl
  obtain ⟨g, c, htv⟩ := slice_pos h.run.tr (by simp)
  obtain ⟨y0, hy0, e0, e1, e2⟩ := h.thr 0 t0 rfl
  obtain ⟨y1, hy1, f0, f1, f2⟩ := h.thr 1 t1 rfl
  simp [twoL] at hy0 hy1
  subst hy0 hy1
  obtain ⟨a0, a1, a2⟩ := h.views 0 v0 rfl
  obtain ⟨b0, b1, b2⟩ := h.views 1 v1 rfl
  have hvv := h.apart 0 1 v0 v1 (by omega) rfl rfl
  have lm := hm.lt
  have l0 := lt_of q0
  have l1 := lt_of q1
  have lb : b < W6.heap.size := by obtain ⟨_, _, B⟩ := hb; exact B.lt b rfl
  refine ⟨v0, v1, t0.cv, t1.cv, g, c, rfl, ?_, by simpa using htv, ⟨fun k => k = b, [], 0, 0, ⟨hb.chg h.chg (fun _ _ h => h), hm.chg h.chg (fun h => h), a0, b0, q0.chg h.chg (fun h => h), q1.chg h.chg (fun h => h), by omega, by omega, by omega, by omega, by omega, by omega, by omega⟩, rfl, rfl⟩, fun k hk e => ?_⟩
  · cases t0
    cases t1
    simp_all
  · have hW := h.inG k hk
    rcases e with e | e | e | e | e | e
    · omega
    · omega
    · exact a2 (by rw [← e]; exact hk)
    · exact b2 (by rw [← e]; exact hk)
    · omega
    · omega

theorem live_lists (W1 W6 : World) (hW : W6 = (((((W1.alloc (.cells #[.int .u64 5, .int .u64 0, .bool false] 139)).alloc (.cells #[.iface 73 (.pointer (some ⟨W1.heap.size, 0, none⟩))] 91)).alloc (.cells #[.int .u64 6, .int .u64 0, .bool false] 139)).alloc (.cells #[.iface 73 (.pointer (some ⟨W1.heap.size + 1 + 1, 0, none⟩))] 91)).alloc (.cells #[.slice (some ⟨W1.heap.size + 1, 0, none⟩) 1 1, .slice (some ⟨W1.heap.size + 1 + 1 + 1, 0, none⟩) 1 1] 76))) :
    Chg (fun _ => False) W1 W6 ∧ IsLoad W6 W1.heap.size 5 0 false ∧ IsLoad W6 (W1.heap.size + 1 + 1) 6 0 false ∧ Lists W6 (.slice (some ⟨W1.heap.size + 1 + 1 + 1 + 1, 0, none⟩) 2 2) (twoL W1.heap.size (W1.heap.size + 1) (W1.heap.size + 1 + 1) (W1.heap.size + 1 + 1 + 1)) := by
  obtain ⟨a1, ha1⟩ : ∃ a1, a1 = W1.alloc (.cells #[.int .u64 5, .int .u64 0, .bool false] 139) := ⟨_, rfl⟩
  obtain ⟨a2, ha2⟩ : ∃ a2, a2 = a1.alloc (.cells #[.iface 73 (.pointer (some ⟨W1.heap.size, 0, none⟩))] 91) := ⟨_, rfl⟩
  obtain ⟨a3, ha3⟩ : ∃ a3, a3 = a2.alloc (.cells #[.int .u64 6, .int .u64 0, .bool false] 139) := ⟨_, rfl⟩
  obtain ⟨a4, ha4⟩ : ∃ a4, a4 = a3.alloc (.cells #[.iface 73 (.pointer (some ⟨W1.heap.size + 1 + 1, 0, none⟩))] 91) := ⟨_, rfl⟩
  rw [← ha1, ← ha2, ← ha3, ← ha4] at hW
  have z1 : a1.heap.size = W1.heap.size + 1 := by rw [ha1]; simp
  have z2 : a2.heap.size = W1.heap.size + 1 + 1 := by rw [ha2]; simp [z1]
  have z3 : a3.heap.size = W1.heap.size + 1 + 1 + 1 := by rw [ha3]; simp [z2]
  have z4 : a4.heap.size = W1.heap.size + 1 + 1 + 1 + 1 := by rw [ha4]; simp [z3]
  have g1 : a1.heap[W1.heap.size]? = some (.cells #[.int .u64 5, .int .u64 0, .bool false] 139 (0, 0)) := by rw [ha1]; exact heap_alloc_new _ _
  have g2 : a2.heap[W1.heap.size + 1]? = some (.cells #[.iface 73 (.pointer (some ⟨W1.heap.size, 0, none⟩))] 91 (0, 0)) := by rw [ha2, ← z1]; exact heap_alloc_new _ _
  have g3 : a3.heap[W1.heap.size + 1 + 1]? = some (.cells #[.int .u64 6, .int .u64 0, .bool false] 139 (0, 0)) := by rw [ha3, ← z2]; exact heap_alloc_new _ _
  have g4 : a4.heap[W1.heap.size + 1 + 1 + 1]? = some (.cells #[.iface 73 (.pointer (some ⟨W1.heap.size + 1 + 1, 0, none⟩))] 91 (0, 0)) := by rw [ha4, ← z3]; exact heap_alloc_new _ _
  have g5 : W6.heap[W1.heap.size + 1 + 1 + 1 + 1]? = some (.cells #[.slice (some ⟨W1.heap.size + 1, 0, none⟩) 1 1, .slice (some ⟨W1.heap.size + 1 + 1 + 1, 0, none⟩) 1 1] 76 (0, 0)) := by rw [hW, ← z4]; exact heap_alloc_new _ _
  have c6 : Chg (fun _ => False) a4 W6 := by rw [hW]; exact (Chg.refl _ _).alloc _
  have c4 : Chg (fun _ => False) a3 W6 := by rw [ha4] at c6; exact ((Chg.refl _ a3).alloc _).trans c6 (fun _ _ x => x) (fun _ _ x => x)
  have c3 : Chg (fun _ => False) a2 W6 := by rw [ha3] at c4; exact ((Chg.refl _ a2).alloc _).trans c4 (fun _ _ x => x) (fun _ _ x => x)
  have c2 : Chg (fun _ => False) a1 W6 := by rw [ha2] at c3; exact ((Chg.refl _ a1).alloc _).trans c3 (fun _ _ x => x) (fun _ _ x => x)
  have c1 : Chg (fun _ => False) W1 W6 := by rw [ha1] at c2; exact ((Chg.refl _ W1).alloc _).trans c2 (fun _ _ x => x) (fun _ _ x => x)
  have h2 := (c3.block _ (by omega) (fun h => h)).trans g2
  have h4 := (c6.block _ (by omega) (fun h => h)).trans g4
  refine ⟨c1, (c2.block _ (by omega) (fun h => h)).trans g1, (c4.block _ (by omega) (fun h => h)).trans g3, ⟨?_, ?_, ?_⟩⟩
  · exact row_of (n := 2) (s := 1) g5 rfl (by omega)
  · intro x hx
    simp [twoL] at hx
    rcases hx with rfl | rfl
    · exact row_of (n := 1) (s := 1) h2 rfl (by omega)
    · exact row_of (n := 1) (s := 1) h4 rfl (by omega)
  · intro x hx u hu
    simp [twoL] at hx
    rcases hx with rfl | rfl
    · simp at hu
      subst hu
      rfl
    · simp at hu
      subst hu
      rfl

set_option maxRecDepth 100000 in
set_option maxHeartbeats 8000000 in
theorem s_live (W : World) : Calls Tryz.prog 6 #[] W fun e W' => e = .returned (.bool true) ∧ Chg (fun _ => False) W W' := by
  go_enter Tryz.func6, Tryz.ntmps6
  go_wp2_with fail
  refine (m_new 128 W (by omega)).mono ?_
  rintro e W1 ⟨rfl, M1, B1, C1, S1⟩
  have HM1 := keepH M1
  have HB1 := keepH B1
  have HS1 := keepH S1
  have HC1 := keepH C1
  clear M1 B1 S1 C1
  go_wp2_with fail
  refine (load_new 5 _).mono ?_
  rintro e w ⟨rfl, rfl⟩
  go_wp2_with fail
  refine (load_new 6 _).mono ?_
  rintro e w ⟨rfl, rfl⟩
  go_wp2_with fail
  obtain ⟨W6, hW6⟩ : ∃ W6, W6 = (((((W1.alloc (.cells #[.int .u64 5, .int .u64 0, .bool false] 139)).alloc (.cells #[.iface 73 (.pointer (some ⟨W1.heap.size, 0, none⟩))] 91)).alloc (.cells #[.int .u64 6, .int .u64 0, .bool false] 139)).alloc (.cells #[.iface 73 (.pointer (some ⟨W1.heap.size + 1 + 1, 0, none⟩))] 91)).alloc (.cells #[.slice (some ⟨W1.heap.size + 1, 0, none⟩) 1 1, .slice (some ⟨W1.heap.size + 1 + 1 + 1, 0, none⟩) 1 1] 76)) := ⟨_, rfl⟩
  rw [← hW6]
  obtain ⟨cL, l0, l1, LL⟩ := live_lists W1 W6 hW6
  have HL := keepH LL
  have HC6 := keepH (HC1.out.trans cL (H := fun _ => False) (fun _ _ x => x) (fun _ _ x => x))
  have HM6 := keepH (HM1.out.chg cL (fun h => h))
  have HB6 := keepH (HB1.out.chg cL (fun _ _ h => h))
  have Hl0 := keepH l0
  have Hl1 := keepH l1
  obtain ⟨n, hn⟩ : ∃ n, n = W1.heap.size := ⟨_, rfl⟩
  rw [← hn] at HL Hl0 Hl1 ⊢
  have HN := keepH hn
  clear hW6 cL l0 l1 LL hn
  refine (s_new (W.heap.size + 1) W.heap.size _ _ W6 HM6.out HL.out (twoL_ok _ _ _ _)).mono ?_
  rintro e W7 ⟨r, G, tv, ths, vbs, rfl, MD, hl⟩
  obtain ⟨v0, v1, c0, c1, g, c, rfl, rfl, rfl, LS7, D7⟩ := live_start HM6.out HB6.out Hl0.out Hl1.out MD hl (by have := HS1.out; have := HN.out; omega)
  have HR7 := keepH MD.run
  have HC7 := keepH (HC6.out.trans MD.chg (H := fun _ => False) (fun _ _ x => x) (fun _ _ x => x))
  have HLS7 := keepH LS7
  have HD7 := keepH D7
  have hGW : Hid (∀ k, G k → W.heap.size ≤ k) := fun k e => by have := MD.inG k e; have := HC6.out.size; omega
  have hKW : Hid (∀ k, inK (fun k => k = W.heap.size) (W.heap.size + 1) v0 v1 n (n + 1 + 1) k → W.heap.size ≤ k) := fun k e => by
    have h1 := (MD.views 0 v0 rfl).2.1
    have h2 := (MD.views 1 v1 rfl).2.1
    have h3 := HN.out
    have h4 := HS1.out
    have h5 := HC6.out.size
    rcases e with e | e | e | e | e | e <;> omega
  clear LS7 D7 MD hl HM6 HB6 Hl0 Hl1 HL HM1 HB1 HC1
  go_wp2_with fail
  refine (r_pick_in (vb := v1) (ths := [⟨c0, [loadI n], 0, false⟩, ⟨c1, [loadI (n + 1 + 1)], 0, false⟩]) (LS (W.heap.size + 1) W.heap.size v0 v1 n (n + 1 + 1) 0 false false) (fun d X K => d = true ∧ LS (W.heap.size + 1) W.heap.size v0 v1 n (n + 1 + 1) 1 false true X K) 0 (fun _ => 1) 1 ⟨c1, [loadI (n + 1 + 1)], 0, false⟩ (loadI (n + 1 + 1)) W7 HR7.out rfl (by simp) rfl rfl HLS7.out HD7.out
    (fun X Y K h hs hk => LS.keep h hs hk) (fun X K h => LS.lt h) (fun X K h => LS.mem h) (fun d X Y K h hs hk => ⟨h.1, LS.keep h.2 hs hk⟩) (fun d X K h => LS.lt h.2) (fun d X K h => LS.mem h.2)
    (fun X K h => ls_step1 X K h (by omega)) (by omega) (by simp) (by omega) (fun _ => by omega)).mono ?_
  rintro e W8 ⟨d, G8, K8, ev8, av8, rfl, R8, ⟨rfl, LS8⟩, D8, GG8⟩
  have HR8 := keepH R8
  have HLS8 := keepH LS8
  have HD8 := keepH D8
  have HG8 := keepH GG8
  clear R8 LS8 D8 GG8 HR7 HLS7 HD7
  go_wp2_with fail
  refine (r_pick_out 7 W8 HR8.out (.inr (by simp)) (by omega)).mono ?_
  rintro e W9 ⟨rfl, R9, GG9⟩
  have HR9 := keepH R9
  have HG9 := keepH GG9
  clear R9 GG9 HR8
  go_wp2_with fail
  refine (r_pick_done (ths := [⟨c0, [loadI n], 0, false⟩, pickThr ⟨c1, [loadI (n + 1 + 1)], 0, false⟩ true]) 1 (pickThr ⟨c1, [loadI (n + 1 + 1)], 0, false⟩ true) W9 HR9.out rfl (by simp [pickThr]) (by omega)).mono ?_
  rintro e W10 ⟨rfl, R10, GG10⟩
  have HR10 := keepH R10
  have HG10 := keepH GG10
  clear R10 GG10 HR9
  go_wp2_with fail
  refine (r_done W10 HR10.out).mono ?_
  rintro e w ⟨rfl, q, rfl⟩
  have t1 : allDone [⟨c0, [loadI n], 0, false⟩, pickThr ⟨c1, [loadI (n + 1 + 1)], 0, false⟩ true] = false := rfl
  have LS10 : Hid (LS (W.heap.size + 1) W.heap.size v0 v1 n (n + 1 + 1) 1 false true (W10.drewN q) K8) := (HLS8.out.keep HG9.out.chg.size (fun k hk => HG9.out.chg.block k (HLS8.out.lt k hk) (fun e => HD8.out k e hk))).keep (Nat.le_trans HG10.out.chg.size (Nat.le_refl _)) (fun k hk => HG10.out.chg.block k (Nat.lt_of_lt_of_le (HLS8.out.lt k hk) HG9.out.chg.size) (fun e => HD8.out k e hk))
  have HR11 := keepH (HR10.out.kept (W' := W10.drewN q) (Nat.le_refl _) (fun _ _ => rfl))
  clear HR10
  go_wp2_with fail
  refine (r_pick_in (vb := v0) (ths := [⟨c0, [loadI n], 0, false⟩, pickThr ⟨c1, [loadI (n + 1 + 1)], 0, false⟩ true]) (LS (W.heap.size + 1) W.heap.size v0 v1 n (n + 1 + 1) 1 false true) (fun d X K => d = true ∧ LS (W.heap.size + 1) W.heap.size v0 v1 n (n + 1 + 1) 2 true true X K) 1 (fun _ => 2) 0 ⟨c0, [loadI n], 0, false⟩ (loadI n) (W10.drewN q) HR11.out rfl (by simp) rfl rfl LS10.out HD8.out
    (fun X Y K h hs hk => LS.keep h hs hk) (fun X K h => LS.lt h) (fun X K h => LS.mem h) (fun d X Y K h hs hk => ⟨h.1, LS.keep h.2 hs hk⟩) (fun d X K h => LS.lt h.2) (fun d X K h => LS.mem h.2)
    (fun X K h => ls_step0 X K h (by omega)) (by omega) (by simp [pickEvs]) (by omega) (fun _ => by omega)).mono ?_
  rintro e W12 ⟨d, G12, K12, ev12, av12, rfl, R12, ⟨rfl, LS12⟩, D12, GG12⟩
  have HR12 := keepH R12
  have HLS12 := keepH LS12
  have HC12 : Hid (Chg (fun _ => False) W W12) := by
    have a1 := HC7.out.trans HG8.out.chg (H := fun _ => False) (fun _ _ x => x) (fun k hk e => by rcases e with e | e; have := hGW.out k e; omega; have := hKW.out k e; omega)
    have n8 : ∀ k, G8 k ∨ K8 k → W.heap.size ≤ k := fun k e => (HG8.out.new k e).elim (fun e => e.elim (hGW.out k) (hKW.out k)) (fun e => Nat.le_trans HC7.out.size e)
    have a2 := a1.trans HG9.out.chg (H := fun _ => False) (fun _ _ x => x) (fun k hk e => by have := n8 k (.inl e); omega)
    have a3 := a2.trans HG10.out.chg (H := fun _ => False) (fun _ _ x => x) (fun k hk e => by have := n8 k (.inl e); omega)
    have a4 := a3.trans (Goes.drewN W10 (fun _ => False) q).chg (H := fun _ => False) (fun _ _ x => x) (fun _ _ x => x)
    exact a4.trans GG12.chg (fun _ _ x => x) (fun k hk e => by have := n8 k e; omega)
  clear R12 LS12 D12 GG12 HR11 LS10 HG8 HG9 HG10 HC7
  go_wp2_with fail
  refine (r_done W12 HR12.out).mono ?_
  rintro e w ⟨rfl, q2, rfl⟩
  have t2 : allDone [pickThr ⟨c0, [loadI n], 0, false⟩ true, pickThr ⟨c1, [loadI (n + 1 + 1)], 0, false⟩ true] = true := rfl
  have HR13 := keepH (HR12.out.kept (W' := W12.drewN q2) (Nat.le_refl _) (fun _ _ => rfl))
  go_wp2_with fail
  refine (r_steps _ HR13.out).mono ?_
  rintro e w ⟨rfl, rfl⟩
  obtain ⟨evs, ats, hel, hal, ev13, av13, G13, HRx⟩ : ∃ (evs : List Ev) (ats : List Int), evs.length = 4 ∧ ats.length = 2 ∧ ∃ ev av G, Hid (RunAt (W12.drewN q2) G r (W.heap.size + 1) (vwOf [v0, v1]) (.slice (some ⟨g, 0, none⟩) 2 c) ev av [pickThr ⟨c0, [loadI n], 0, false⟩ true, pickThr ⟨c1, [loadI (n + 1 + 1)], 0, false⟩ true] 4 evs ats) := ⟨_, _, rfl, rfl, _, _, _, HR13.out⟩
  clear HR12 HR13
  go_wp2_with fail
  refine (r_events _ HRx.out (by omega)).mono ?_
  rintro e W14 ⟨p14, c14, rfl, R14, C14, B14⟩
  have HR14 := keepH (HRx.out.chg C14 (fun _ _ h => h))
  have LS14 := keepH ((HLS12.out.keep (Y := W12.drewN q2) (Nat.le_refl _) (fun _ _ => rfl)).keep C14.size (fun k hk => C14.block k (HLS12.out.lt k hk) (fun h => h)))
  have HC14 := keepH ((HC12.out.trans (Goes.drewN W12 (fun _ => False) q2).chg (H := fun _ => False) (fun _ _ x => x) (fun _ _ x => x)).trans C14 (H := fun _ => False) (fun _ _ x => x) (fun _ _ x => x))
  clear R14 C14 B14 HRx
  go_wp2_with fail
  obtain ⟨b', F', most', next', cs', l', hm', hb', hll', _, _⟩ := LS14.out.mem
  have he2 : (extN ats l'.length (-1)).length = 2 := by rw [extN_length, hal, hll']; rfl
  refine (r_at _ HR14.out hm' hb' (by omega) (by omega)).mono ?_
  rintro e W15 ⟨p15, c15, rfl, R15, C15, B15⟩
  have HC15 := keepH (HC14.out.trans C15 (H := fun _ => False) (fun _ _ x => x) (fun _ _ x => x))
  clear R15 C15 B15 hm' hb' hll'
  go_wp2_with fail
  go_ret
  exact ⟨by simp, HC15.out⟩
end Go.Proofs.YtnhiodmigmmfgaaGreat
/- StepPicks, walked. -/
namespace Go.Proofs.YtnhiodmigmmfgaaGreat
open Go.RowKit Go.Shelf
set_option linter.unusedVariables false

/-- Both have made the same picks. -/
structure Same9 (W V0 X : World) (ll : List (List PlP)) (p : Option Addr) (c8 : Nat) (c : Cfg PS) (wb q nm m r b : Nat) (sv : Value) (qv : Nat → Value) (vb : Nat → Nat) (pb : Nat → Nat → Nat) : Prop where
  ex : ∃ s, HWx W V0 X ll p c8 c s wb q nm m r b sv qv vb pb ∧ DRx ll.length (clOf ll) c s
theorem c0_vals {W : World} {p : Option Addr} {ll : List (List PlP)} {ap : Nat → Option Addr} {ac : Nat → Nat} {lp : Nat → Nat → Option Addr} {lc : Nat → Nat → Nat} (hP : ThsAt W W.heap.size p ll ap ac lp lc) (l : List Int) : PInv ll.length (clOf ll) (qOf ll) ((c0Of ll lp lc).run (plK W.heap.size W) 200 ll.length (clOf ll) l) ∧ ∀ x ∈ ((c0Of ll lp lc).run (plK W.heap.size W) 200 ll.length (clOf ll) l).t, x.vals.length ≤ 1099511627776 :=
  run_vals (fun i j hi hj d hd => (((hP i (lOf ll i) (lOf_get hi)).2 j (qOf ll i j) (qOf_get hj)).2 _ d (List.getElem?_of_mem hd).choose_spec).1.len) l _ (pinv_start ll lp lc) (fun x hx => by
      have hx' : x ∈ [(⟨9, 2, 50, 3, 0, .slice none 0 0, [], 0, false⟩ : Acc)] := hx
      simp at hx'
      rw [hx']
      simp)
section
variable {W V0 X : World} {ll : List (List PlP)} {p : Option Addr} {c8 : Nat} {c : Cfg PS} {wb q nm m r b : Nat} {sv : Value} {qv : Nat → Value} {vb : Nat → Nat} {pb : Nat → Nat → Nat}
theorem Same9.alike (h : Same9 W V0 X ll p c8 c wb q nm m r b sv qv vb pb) (hWV : Chg (fun _ => False) W V0) {ap : Nat → Option Addr} {ac : Nat → Nat} {lp : Nat → Nat → Option Addr} {lc : Nat → Nat → Nat} (hP : ThsAt W W.heap.size p ll ap ac lp lc) (hls : ∀ l ∈ ll, l.length ≤ 1048576) (hI : PInv ll.length (clOf ll) (qOf ll) c) (hst : c.st ≤ 16777216) (hv : ∀ x ∈ c.t, x.vals.length ≤ 1099511627776) :
    Calls Tryz.prog 10 #[.pointer (some ⟨wb, 0, none⟩), .pointer (some ⟨q, 0, none⟩)] X fun e Y => e = .returned (.bool true) ∧ Same9 W V0 Y ll p c8 c wb q nm m r b sv qv vb pb := by
  obtain ⟨s, h1, h2⟩ := h.ex
  obtain ⟨gg, pe, ce, pw, cw, pa, ca, ps, cs, A, Pd, gv, l4, es, ha⟩ := asks h1 hWV hP h2 hI hls hst hv
  refine (alike_walk ha).mono ?_
  rintro e Y ⟨rfl, cc⟩
  exact ⟨rfl, s, h1.quiet cc, h2⟩
theorem Same9.chg (h : Same9 W V0 X ll p c8 c wb q nm m r b sv qv vb pb) : Chg (fun _ => False) V0 X := by
  obtain ⟨s, h1, h2⟩ := h.ex
  exact h1.chg
theorem Same9.cell (h : Same9 W V0 X ll p c8 c wb q nm m r b sv qv vb pb) : X.cell? ⟨wb, 1, none⟩ = some (.pointer (some ⟨r, 0, none⟩)) := by
  obtain ⟨s, h1, h2⟩ := h.ex
  exact h1.cell.1
theorem Same9.quiet {Y : World} (h : Same9 W V0 X ll p c8 c wb q nm m r b sv qv vb pb) (g : Chg (fun _ => False) X Y) : Same9 W V0 Y ll p c8 c wb q nm m r b sv qv vb pb := by
  obtain ⟨s, h1, h2⟩ := h.ex
  exact ⟨s, h1.quiet g, h2⟩
/-- The program ahead by one pick. -/
structure Ahead9 (W V0 X : World) (ll : List (List PlP)) (p : Option Addr) (c8 : Nat) (c d : Cfg PS) (wb q nm m r b : Nat) (sv : Value) (qv : Nat → Value) (vb : Nat → Nat) (pb : Nat → Nat → Nat) : Prop where
  ex : ∃ s, HWx W V0 X ll p c8 c s wb q nm m r b sv qv vb pb ∧ DRx ll.length (clOf ll) d s
theorem Same9.pick (h : Same9 W V0 X ll p c8 c wb q nm m r b sv qv vb pb) (th : Int) (hst : c.st ≤ 16777216) : Calls Tryz.prog 8 #[.pointer (some ⟨r, 0, none⟩), .int .i64 th] X fun e Y => e = .returned (.bool (decide (Cfg.can ll.length (clOf ll) c th))) ∧ Ahead9 W V0 Y ll p c8 (c.pick (plK W.heap.size W) 200 ll.length (clOf ll) th) c wb q nm m r b sv qv vb pb := by
  obtain ⟨s, h1, h2⟩ := h.ex
  refine (hwx_pickP h1 th hst).mono ?_
  rintro e Y ⟨rfl, h3⟩
  exact ⟨rfl, s, h3, h2⟩
theorem Ahead9.chg {d : Cfg PS} (h : Ahead9 W V0 X ll p c8 c d wb q nm m r b sv qv vb pb) : Chg (fun _ => False) V0 X ∧ X.cell? ⟨wb, 1, none⟩ = some (.pointer (some ⟨r, 0, none⟩)) := by
  obtain ⟨s, h1, h2⟩ := h.ex
  exact ⟨h1.chg, h1.cell.1⟩
theorem Ahead9.pick {d : Cfg PS} (h : Ahead9 W V0 X ll p c8 c d wb q nm m r b sv qv vb pb) (hWV : Chg (fun _ => False) W V0) {ap : Nat → Option Addr} {ac : Nat → Nat} {lp : Nat → Nat → Option Addr} {lc : Nat → Nat → Nat} (hP : ThsAt W W.heap.size p ll ap ac lp lc) (hls : ∀ l ∈ ll, l.length ≤ 1048576) (hL : ∀ l ∈ ll, ∀ q ∈ l, q.L.length ≤ 1048576) (hI : PInv ll.length (clOf ll) (qOf ll) d) (hst : d.st ≤ 16777216) (th : Int) : Calls Tryz.prog 9 #[.pointer (some ⟨q, 0, none⟩), .int .i64 th] X fun e Y => e = .returned (.bool (decide (Cfg.can ll.length (clOf ll) d th))) ∧ Ahead9 W V0 Y ll p c8 c (d.pick (plK W.heap.size W) 200 ll.length (clOf ll) th) wb q nm m r b sv qv vb pb := by
  obtain ⟨s, h1, h2⟩ := h.ex
  refine (hwx_pickD h1 hWV hP hls hL h2 hI (by rw [h2.st]; exact hst) th).mono ?_
  rintro e Y ⟨rfl, s', h3, -, h4⟩
  exact ⟨rfl, s', h3, h4⟩
end
end Go.Proofs.YtnhiodmigmmfgaaGreat
/- Finish of both. -/
namespace Go.Proofs.YtnhiodmigmmfgaaGreat
open Go.RowKit Go.Shelf
set_option linter.unusedVariables false

section
variable {P : Type} {Lo : Nat} {W0 : World} {κ : KindL P Lo W0} {most m b T : Nat} {cl : Nat → Nat} {vb : Nat → Nat} {pv : Nat → Nat → Value} {c : Cfg P} {W Z X : World} {S : Nat → Prop} {r : Nat}
set_option maxRecDepth 100000 in
set_option maxHeartbeats 4000000 in
theorem gr_turnB (Inv : Cfg P → Prop) (hb : ∀ c, Inv c → c.st ≤ 16777216) (hp : ∀ c j, Inv c → Cfg.can T cl c j → Inv (c.pick κ most T cl j)) (hI : Inv c) (h : GR κ most m b T cl vb pv c W Z X S r) (lim : Nat) (hlim : lim ≤ 9223372036854775807) :
    Calls Tryz.prog 49 #[.pointer (some ⟨r, 0, none⟩), .int .i64 (lim : Int)] X fun e X' => e = .returned (.int .i64 ((turnR κ most T cl lim c T).2 : Int)) ∧ GR κ most m b T cl vb pv (turnR κ most T cl lim c T).1 W Z X' S r ∧ Inv (turnR κ most T cl lim c T).1 := by
  have H := keepH h
  have HB := keepH hb
  have HPI := keepH hp
  have HI := keepH hI
  obtain ⟨G, K, vw, tv, ev, av, ths, h⟩ := h
  have c0 : X.cell? ⟨r, 65, none⟩ = some tv := h.run.cellk 0
  have hl := h.len
  have h64 := h.run.thl
  obtain ⟨p, c8, htv⟩ := slice_of h.run.tr
  rw [htv, hl] at c0
  clear h htv hb hp hI
  go_enter Tryz.func49, Tryz.ntmps49
  go_wp2_with fail
  go_loopw [5, 12] (fun s5 s12 wr => ∃ j : Nat, j ≤ T ∧ s12 = .int .i64 (j : Int) ∧ ∃ n : Nat, n ≤ j ∧ s5 = .int .i64 (n : Int) ∧ Hid (n = (turnR κ most T cl lim c j).2 ∧ GR κ most m b T cl vb pv (turnR κ most T cl lim c j).1 W Z wr S r ∧ Inv (turnR κ most T cl lim c j).1)) (fun _ s12 _ => T - (intOf s12).toNat)
  case atStart => exact ⟨0, by omega, rfl, 0, by omega, rfl, rfl, H.out, HI.out⟩
  case round =>
    obtain ⟨j, hj, rfl, n, hnj, rfl, HJ⟩ := hrel
    by_cases hjT : j < T
    · have t1 : (j : Int) < (T : Int) := by omega
      obtain ⟨d, hd⟩ : ∃ d, d = turnR κ most T cl lim c j := ⟨_, rfl⟩
      have HD := keepH hd
      have HJ2 : Hid (n = d.2 ∧ GR κ most m b T cl vb pv d.1 W Z wr S r ∧ Inv d.1) := by rw [hd]; exact HJ.out
      clear hd HJ
      by_cases hnl : n < lim
      · have t2 : (n : Int) < (lim : Int) := by omega
        have HC := keepH (gr_can HJ2.out.2.1 j hjT)
        by_cases hcan : Cfg.can T cl d.1 (j : Int)
        · rw [decide_eq_true hcan] at HC
          have HCN := keepH hcan
          clear hcan
          go_wp2_with fail
          refine HC.out.mono ?_
          rintro e w1 ⟨rfl, g1⟩
          have HG1 := keepH g1
          clear g1
          go_wp2_with fail
          refine (gr_pick HG1.out (j : Int) (HB.out _ HJ2.out.2.2)).mono ?_
          rintro e w2 ⟨rfl, g2⟩
          have HG2 := keepH g2
          clear g2
          go_wp2_with fail
          go_roundw
          case rel =>
            have e1 : turnR κ most T cl lim c (j + 1) = (d.1.pick κ most T cl (j : Int), d.2 + 1) := by
              rw [turnR_succ, ← HD.out]
              unfold tst
              rw [if_pos ⟨by have := HJ2.out.1; omega, HCN.out⟩]
            refine ⟨j + 1, by omega, by first | rfl | go_num, n + 1, by omega, by first | rfl | go_num, ?_⟩
            rw [e1]
            exact ⟨by have := HJ2.out.1; omega, HG2.out, HPI.out _ _ HJ2.out.2.2 HCN.out⟩
          case measure => simp [intOf]; omega
        · rw [decide_eq_false hcan] at HC
          have HCN := keepH hcan
          clear hcan
          go_wp2_with fail
          refine HC.out.mono ?_
          rintro e w1 ⟨rfl, g1⟩
          have HG1 := keepH g1
          clear g1
          go_wp2_with fail
          go_roundw
          case rel =>
            have e1 : turnR κ most T cl lim c (j + 1) = d := by
              rw [turnR_succ, ← HD.out]
              unfold tst
              rw [if_neg (fun e => HCN.out e.2)]
            refine ⟨j + 1, by omega, by first | rfl | go_num, n, by omega, rfl, ?_⟩
            rw [e1]
            exact ⟨HJ2.out.1, HG1.out, HJ2.out.2.2⟩
          case measure => simp [intOf]; omega
      · have t2 : ¬ (n : Int) < (lim : Int) := by omega
        go_wp2_with fail
        go_roundw
        case rel =>
          have e1 : turnR κ most T cl lim c (j + 1) = d := by
            rw [turnR_succ, ← HD.out]
            unfold tst
            rw [if_neg (fun e => by have := HJ2.out.1; omega)]
          refine ⟨j + 1, by omega, by first | rfl | go_num, n, by omega, rfl, ?_⟩
          rw [e1]
          exact ⟨HJ2.out.1, HJ2.out.2.1, HJ2.out.2.2⟩
        case measure => simp [intOf]; omega
    · have t1 : ¬ (j : Int) < (T : Int) := by omega
      obtain rfl : j = T := by omega
      go_wp2_with fail
      refine bodyPost_ret (results_tmp rfl _ _ _) rfl ⟨?_, HJ.out.2.1, HJ.out.2.2⟩
      rw [← HJ.out.1]
      rfl
set_option maxRecDepth 100000 in
set_option maxHeartbeats 4000000 in
theorem gr_finishB (Inv : Cfg P → Prop) (hb : ∀ c, Inv c → c.st ≤ 16777216) (hp : ∀ c j, Inv c → Cfg.can T cl c j → Inv (c.pick κ most T cl j)) (hI : Inv c) (h : GR κ most m b T cl vb pv c W Z X S r) (lim : Nat) (hlim : lim ≤ 9223372036854775807) :
    Calls Tryz.prog 14 #[.pointer (some ⟨r, 0, none⟩), .int .i64 (lim : Int)] X fun e X' => e = .returned (.bool (decide (doneP T cl (finR κ most T cl lim lim c)))) ∧ GR κ most m b T cl vb pv (finR κ most T cl lim lim c) W Z X' S r ∧ Inv (finR κ most T cl lim lim c) := by
  have H := keepH h
  have HB := keepH hb
  have HPI := keepH hp
  have HI := keepH hI
  clear h hb hp hI
  go_enter Tryz.func14, Tryz.ntmps14
  go_wp2_with fail
  go_loopw [1] (fun s wr => ∃ k : Nat, k ≤ lim ∧ s = .int .i64 (k : Int) ∧ Hid (∃ d, GR κ most m b T cl vb pv d W Z wr S r ∧ Inv d ∧ finR κ most T cl lim lim c = finR κ most T cl k k d)) (fun s _ => (intOf s).toNat)
  case atStart => exact ⟨lim, Nat.le_refl _, rfl, c, H.out, HI.out, rfl⟩
  case round =>
    obtain ⟨k, hk, rfl, HX⟩ := hrel
    obtain ⟨d, g0, i0, e0⟩ := HX.out
    have HG0 := keepH g0
    have HI0 := keepH i0
    have HE0 := keepH e0
    clear g0 i0 e0 HX
    by_cases hk0 : 0 < k
    · have t1 : (0 : Int) < (k : Int) := by omega
      have HDN := keepH (gr_done HG0.out)
      by_cases hd : doneP T cl d
      · rw [decide_eq_true hd] at HDN
        have HDD := keepH hd
        clear hd
        go_wp2_with fail
        refine HDN.out.mono ?_
        rintro e w1 ⟨rfl, g1⟩
        have HG1 := keepH g1
        clear g1
        go_wp2_with fail
        refine (gr_done HG1.out).mono ?_
        rintro e w2 ⟨rfl, g2⟩
        have HG2 := keepH g2
        clear g2
        go_wp2_with fail
        have e1 : finR κ most T cl lim lim c = d := by rw [HE0.out]; exact finR_stop _ _ _ _ _ _ _ (fun e => e.2 HDD.out)
        refine bodyPost_ret (results_tmp rfl _ _ _) rfl ?_
        rw [e1]
        exact ⟨rfl, HG2.out, HI0.out⟩
      · rw [decide_eq_false hd] at HDN
        have HDD := keepH hd
        clear hd
        obtain ⟨n, hn⟩ : ∃ n, n = (turnR κ most T cl k d T).2 := ⟨_, rfl⟩
        have HN := keepH hn
        have hn1 : 0 < n ∧ n ≤ k := by rw [hn]; exact ⟨turnR_pos κ most T cl k d hk0 HDD.out, (turnR_le κ most T cl k d T).1⟩
        have HTN := keepH (fun w (g : GR κ most m b T cl vb pv d W Z w S r) => gr_turnB Inv HB.out HPI.out HI0.out g k (by omega))
        rw [← hn] at HTN
        clear hn
        go_wp2_with fail
        refine HDN.out.mono ?_
        rintro e w1 ⟨rfl, g1⟩
        have HG1 := keepH g1
        clear g1
        go_wp2_with fail
        refine (HTN.out _ HG1.out).mono ?_
        rintro e w2 ⟨rfl, g2, i2⟩
        have HG2 := keepH g2
        have HI2 := keepH i2
        clear g2 i2
        go_wp2_with fail
        go_roundw
        case rel =>
          refine ⟨k - n, by omega, by first | rfl | go_num | (congr 1; omega), _, HG2.out, HI2.out, ?_⟩
          rw [HE0.out, finR_turn κ most T cl k d hk0 HDD.out, ← HN.out]
        case measure => simp [intOf]; omega
    · have t1 : ¬ (0 : Int) < (k : Int) := by omega
      go_wp2_with fail
      refine (gr_done HG0.out).mono ?_
      rintro e w2 ⟨rfl, g2⟩
      have HG2 := keepH g2
      clear g2
      go_wp2_with fail
      have e1 : finR κ most T cl lim lim c = d := by rw [HE0.out]; exact finR_stop _ _ _ _ _ _ _ (fun e => hk0 e.1)
      refine bodyPost_ret (results_tmp rfl _ _ _) rfl ?_
      rw [e1]
      exact ⟨rfl, HG2.out, HI0.out⟩
end

section
variable {P : Type} {Lo : Nat} {W0 : World} {κ : KindL P Lo W0} {most m b T : Nat} {cl : Nat → Nat} {vb : Nat → Nat} {pv : Nat → Nat → Value} {c : Cfg P} {W Z X : World} {S : Nat → Prop} {r : Nat}
set_option maxRecDepth 100000 in
theorem gr_finish0 (h : GR κ most m b T cl vb pv c W Z X S r) (lim : Int) (hl : lim ≤ 0) :
    Calls Tryz.prog 14 #[.pointer (some ⟨r, 0, none⟩), .int .i64 lim] X fun e X' => e = .returned (.bool (decide (doneP T cl c))) ∧ GR κ most m b T cl vb pv c W Z X' S r := by
  have H := keepH h
  have t1 : ¬ (0 : Int) < lim := by omega
  clear h
  go_enter Tryz.func14, Tryz.ntmps14
  go_wp2_with fail
  go_loopw [1] (fun s wr => s = .int .i64 lim ∧ Hid (GR κ most m b T cl vb pv c W Z wr S r)) (fun _ _ => 0)
  case atStart => exact ⟨rfl, H⟩
  case round =>
    obtain ⟨rfl, HG⟩ := hrel
    go_wp2_with fail
    refine (gr_done HG.out).mono ?_
    rintro e w2 ⟨rfl, g2⟩
    have HG2 := keepH g2
    clear g2
    go_wp2_with fail
    exact bodyPost_ret (results_tmp rfl _ _ _) rfl ⟨rfl, HG2.out⟩
end
/-- What holds of a run all along. -/
structure Inv9 (ll : List (List PlP)) (c : Cfg PS) : Prop where
  pi : PInv ll.length (clOf ll) (qOf ll) c
  vals : ∀ x ∈ c.t, x.vals.length ≤ 1099511627776
  st : c.st + rem ll.length (clOf ll) c ≤ 16777216
section
variable {W V0 X : World} {ll : List (List PlP)} {p : Option Addr} {c8 : Nat} {c d : Cfg PS} {wb q nm m r b : Nat} {sv : Value} {qv : Nat → Value} {vb : Nat → Nat} {pb : Nat → Nat → Nat}
theorem Inv9.pick (hq : ∀ i j, i < ll.length → j < clOf ll i → ∀ e ∈ (qOf ll i j).L, e.vals.length ≤ 1099511627776) (h : Inv9 ll c) (th : Int) (hc : Cfg.can ll.length (clOf ll) c th) : Inv9 ll (c.pick (plK W.heap.size W) 200 ll.length (clOf ll) th) := by
  have h1 := h.pi.pick (Lo := W.heap.size) (W0 := W) (most := 200) th
  rw [if_pos hc] at h1
  have h2 := run_vals (Lo := W.heap.size) (W0 := W) (most := 200) hq [th] c h.pi h.vals
  exact ⟨h1.1, h2.2, by rw [pick_st]; have := h1.2; have := h.st; omega⟩
theorem Same9.finish (h : Same9 W V0 X ll p c8 c wb q nm m r b sv qv vb pb) (hq : ∀ i j, i < ll.length → j < clOf ll i → ∀ e ∈ (qOf ll i j).L, e.vals.length ≤ 1099511627776) (hI : Inv9 ll c) (most : Int) (h63 : most ≤ 9223372036854775807) : Calls Tryz.prog 14 #[.pointer (some ⟨r, 0, none⟩), .int .i64 most] X fun e Y => e = .returned (.bool (decide (doneP ll.length (clOf ll) (finR (plK W.heap.size W) 200 ll.length (clOf ll) most.toNat most.toNat c)))) ∧ Ahead9 W V0 Y ll p c8 (finR (plK W.heap.size W) 200 ll.length (clOf ll) most.toNat most.toNat c) c wb q nm m r b sv qv vb pb ∧ Inv9 ll (finR (plK W.heap.size W) 200 ll.length (clOf ll) most.toNat most.toNat c) := by
  obtain ⟨s, h1, h2⟩ := h.ex
  obtain ⟨S, g, f⟩ := h1.on
  by_cases hm : most ≤ 0
  · have e0 : most.toNat = 0 := by omega
    rw [e0]
    refine (gr_finish0 g most hm).mono ?_
    rintro e Y ⟨rfl, g'⟩
    exact ⟨rfl, ⟨s, f _ _ g', h2⟩, hI⟩
  · obtain ⟨lim, rfl⟩ : ∃ lim : Nat, most = (lim : Int) := ⟨most.toNat, by omega⟩
    rw [Int.toNat_natCast]
    refine (gr_finishB (Inv9 ll) (fun c z => by have := z.st; omega) (fun c j z hc => z.pick hq j hc) hI g lim (by omega)).mono ?_
    rintro e Y ⟨rfl, g', z⟩
    exact ⟨rfl, ⟨s, f _ _ g', h2⟩, z⟩
theorem Ahead9.quiet {Y : World} (h : Ahead9 W V0 X ll p c8 c d wb q nm m r b sv qv vb pb) (g : Chg (fun _ => False) X Y) : Ahead9 W V0 Y ll p c8 c d wb q nm m r b sv qv vb pb := by
  obtain ⟨s, h1, h2⟩ := h.ex
  exact ⟨s, h1.quiet g, h2⟩
theorem Ahead9.done (h : Ahead9 W V0 X ll p c8 c d wb q nm m r b sv qv vb pb) (hWV : Chg (fun _ => False) W V0) {ap : Nat → Option Addr} {ac : Nat → Nat} {lp : Nat → Nat → Option Addr} {lc : Nat → Nat → Nat} (hP : ThsAt W W.heap.size p ll ap ac lp lc) : Calls Tryz.prog 45 #[.pointer (some ⟨q, 0, none⟩)] X fun e Y => e = .returned (.bool (decide (doneP ll.length (clOf ll) d))) ∧ Ahead9 W V0 Y ll p c8 c d wb q nm m r b sv qv vb pb := by
  obtain ⟨s, h1, h2⟩ := h.ex
  have cX := h1.chg
  have lo := h1.lo
  have hPX : ThsAt X W.heap.size p ll ap ac lp lc := hP.low (fun k hk => (cX.block k (by omega) (fun x => x)).trans (hWV.block k hk (fun x => x)))
  have hcl : ∀ i l, ll[i]? = some l → l.length = clOf ll i := fun i l e => by
    have hi := (List.getElem?_eq_some_iff.1 e).1
    rw [lOf_get hi] at e
    injection e with e
    rw [← e]; rfl
  have h3 := h1
  obtain ⟨K, _, d0, _⟩ := h3
  refine (rd_done d0.hid hPX rfl (clOf ll) hcl).mono ?_
  rintro e Y ⟨rfl, n, rfl⟩
  refine ⟨?_, s, h1.quiet (drewN_chgY _ _), h2⟩
  rw [decide_eq_decide.2 (⟨fun z j hj => by rw [← h2.rel.ix j hj]; exact z j hj, fun z j hj => by rw [h2.rel.ix j hj]; exact z j hj⟩ : (∀ i, i < ll.length → clOf ll i ≤ s.call i) ↔ doneP ll.length (clOf ll) d)]
theorem Ahead9.left (h : Ahead9 W V0 X ll p c8 c d wb q nm m r b sv qv vb pb) (hWV : Chg (fun _ => False) W V0) {ap : Nat → Option Addr} {ac : Nat → Nat} {lp : Nat → Nat → Option Addr} {lc : Nat → Nat → Nat} (hP : ThsAt W W.heap.size p ll ap ac lp lc) (th : Int) : Calls Tryz.prog 37 #[.pointer (some ⟨q, 0, none⟩), .int .i64 th] X fun e Y => e = .returned (.bool (decide (Cfg.can ll.length (clOf ll) d th))) ∧ Ahead9 W V0 Y ll p c8 c d wb q nm m r b sv qv vb pb := by
  obtain ⟨s, h1, h2⟩ := h.ex
  have cX := h1.chg
  have lo := h1.lo
  have hPX : ThsAt X W.heap.size p ll ap ac lp lc := hP.low (fun k hk => (cX.block k (by omega) (fun x => x)).trans (hWV.block k hk (fun x => x)))
  have hcl : ∀ i l, ll[i]? = some l → l.length = clOf ll i := fun i l e => by
    have hi := (List.getElem?_eq_some_iff.1 e).1
    rw [lOf_get hi] at e
    injection e with e
    rw [← e]; rfl
  have h3 := h1
  obtain ⟨K, _, d0, _⟩ := h3
  refine (d4_left d0.hid hPX rfl (clOf ll) hcl th).mono ?_
  rintro e Y ⟨rfl, n, rfl⟩
  refine ⟨?_, s, h1.quiet (drewN_chgY _ _), h2⟩
  rw [decide_eq_decide.2 (can_rel h2 th).symm]
theorem Ahead9.thr (h : Ahead9 W V0 X ll p c8 c d wb q nm m r b sv qv vb pb) : X.cell? ⟨q, 1, none⟩ = some (.slice p ll.length c8) ∧ ll.length ≤ 64 := by
  obtain ⟨s, h1, h2⟩ := h.ex
  obtain ⟨K, _, d0, _⟩ := h1
  obtain ⟨tg, gc, ga, gg, ev, wv, gv, R, h4, hK⟩ := d0
  exact ⟨cell_of h4.blk 1, h4.bd.2.2.2.2.2⟩
/-- A turn of no picks. -/
theorem turnR_none {P : Type} {Lo : Nat} {W0 : World} (κ : KindL P Lo W0) (most T : Nat) (cl : Nat → Nat) (c : Cfg P) : ∀ j, turnR κ most T cl 0 c j = (c, 0)
  | 0 => rfl
  | j + 1 => by rw [turnR_succ, turnR_none κ most T cl c j]; unfold tst; rw [if_neg (by simp)]
/-- A turn that is used up stands still. -/
theorem turnR_full {P : Type} {Lo : Nat} {W0 : World} (κ : KindL P Lo W0) (most T : Nat) (cl : Nat → Nat) (k : Nat) (c : Cfg P) (j : Nat) (h : (turnR κ most T cl k c j).2 = k) : ∀ i, turnR κ most T cl k c (j + i) = turnR κ most T cl k c j
  | 0 => rfl
  | i + 1 => by rw [← Nat.add_assoc, turnR_succ, turnR_full κ most T cl k c j h i]; unfold tst; rw [if_neg (by omega)]
/-- The end where no pick is left to make, and somebody would. -/
theorem fin_out {P : Type} {Lo : Nat} {W0 : World} (κ : KindL P Lo W0) (most T : Nat) (cl : Nat → Nat) (k : Nat) (c : Cfg P) (j : Nat) (hj : j < T) (h : k ≤ (turnR κ most T cl k c j).2) (hd : ¬ doneP T cl c) (hc : Cfg.can T cl (turnR κ most T cl k c j).1 (j : Int)) : finR κ most T cl k k c = (turnR κ most T cl k c j).1 ∧ ¬ doneP T cl (turnR κ most T cl k c j).1 := by
  have hn : ¬ doneP T cl (turnR κ most T cl k c j).1 := fun z => by
    have := z j hj
    have := hc.2.2
    rw [Int.toNat_natCast] at this
    omega
  refine ⟨?_, hn⟩
  have hle := (turnR_le κ most T cl k c j).1
  by_cases h0 : k = 0
  · subst h0
    rw [turnR_none]
    rfl
  · have e2 : (turnR κ most T cl k c j).2 = k := by omega
    have eT : turnR κ most T cl k c T = turnR κ most T cl k c j := by
      have := turnR_full κ most T cl k c j e2 (T - j)
      rw [show j + (T - j) = T by omega] at this
      exact this
    rw [finR_turn κ most T cl k c (by omega) hd, eT, e2, Nat.sub_self]
    rfl
set_option maxRecDepth 100000 in
set_option maxHeartbeats 8000000 in
theorem Ahead9.finish (h : Ahead9 W V0 X ll p c8 c d wb q nm m r b sv qv vb pb) (hWV : Chg (fun _ => False) W V0) {ap : Nat → Option Addr} {ac : Nat → Nat} {lp : Nat → Nat → Option Addr} {lc : Nat → Nat → Nat} (hP : ThsAt W W.heap.size p ll ap ac lp lc) (hls : ∀ l ∈ ll, l.length ≤ 1048576) (hL : ∀ l ∈ ll, ∀ q ∈ l, q.L.length ≤ 1048576) (hq : ∀ i j, i < ll.length → j < clOf ll i → ∀ e ∈ (qOf ll i j).L, e.vals.length ≤ 1099511627776) (hI : Inv9 ll d) (most : Int) (h63 : most ≤ 9223372036854775807) :
    Calls Tryz.prog 15 #[.pointer (some ⟨q, 0, none⟩), .int .i64 most] X fun e Y => e = .returned (.bool (decide (doneP ll.length (clOf ll) (finR (plK W.heap.size W) 200 ll.length (clOf ll) most.toNat most.toNat d)))) ∧ Ahead9 W V0 Y ll p c8 c (finR (plK W.heap.size W) 200 ll.length (clOf ll) most.toNat most.toNat d) wb q nm m r b sv qv vb pb := by
  obtain ⟨lim, hlim⟩ : ∃ lim, lim = most.toNat := ⟨_, rfl⟩
  rw [← hlim]
  have HLM : Hid (∀ n : Nat, ((most : Int) ≤ (n : Int) ↔ lim ≤ n)) := fun n => by omega
  have hl63 : lim ≤ 9223372036854775807 := by omega
  obtain ⟨T, hT⟩ : ∃ T, T = ll.length := ⟨_, rfl⟩
  obtain ⟨cl, hcl⟩ : ∃ cl, cl = clOf ll := ⟨_, rfl⟩
  have h64 : T ≤ 64 := by rw [hT]; exact h.thr.2
  have HTH : Hid (∀ w d', Ahead9 W V0 w ll p c8 c d' wb q nm m r b sv qv vb pb → w.cell? ⟨q, 1, none⟩ = some (.slice p T c8)) := fun w d' z => by rw [hT]; exact z.thr.1
  have HDN : Hid (∀ w d', Ahead9 W V0 w ll p c8 c d' wb q nm m r b sv qv vb pb → Calls Tryz.prog 45 #[.pointer (some ⟨q, 0, none⟩)] w fun e Y => e = .returned (.bool (decide (doneP T cl d'))) ∧ Ahead9 W V0 Y ll p c8 c d' wb q nm m r b sv qv vb pb) := fun w d' z => by rw [hT, hcl]; exact z.done hWV hP
  have HLF : Hid (∀ w d' (j : Nat), Ahead9 W V0 w ll p c8 c d' wb q nm m r b sv qv vb pb → Calls Tryz.prog 37 #[.pointer (some ⟨q, 0, none⟩), .int .i64 (j : Int)] w fun e Y => e = .returned (.bool (decide (Cfg.can T cl d' (j : Int)))) ∧ Ahead9 W V0 Y ll p c8 c d' wb q nm m r b sv qv vb pb) := fun w d' j z => by rw [hT, hcl]; exact z.left hWV hP _
  have HPK : Hid (∀ w d' (j : Nat), Ahead9 W V0 w ll p c8 c d' wb q nm m r b sv qv vb pb → Inv9 ll d' → Calls Tryz.prog 9 #[.pointer (some ⟨q, 0, none⟩), .int .i64 (j : Int)] w fun e Y => ∃ bb, e = .returned (.bool bb) ∧ Ahead9 W V0 Y ll p c8 c (d'.pick (plK W.heap.size W) 200 T cl (j : Int)) wb q nm m r b sv qv vb pb) := fun w d' j z i => by
    rw [hT, hcl]
    refine (z.pick hWV hP hls hL i.pi (by have := i.st; omega) _).mono ?_
    rintro e Y ⟨rfl, h⟩
    exact ⟨_, rfl, h⟩
  have HIV : Hid (∀ d' (j : Nat), Inv9 ll d' → Cfg.can T cl d' (j : Int) → Inv9 ll (d'.pick (plK W.heap.size W) 200 T cl (j : Int))) := fun d' j i hc => by
    rw [hT, hcl] at hc ⊢
    exact i.pick hq _ hc
  rw [← hT, ← hcl]
  obtain ⟨κ, hκ⟩ : ∃ κ : KindL PS W.heap.size W, κ = plK W.heap.size W := ⟨_, rfl⟩
  rw [← hκ] at HPK HIV ⊢
  have H := keepH h
  have HI := keepH hI
  clear h hI hP hls hL hq hT hcl hκ hlim hWV
  go_enter Tryz.func15, Tryz.ntmps15
  go_wp2_with fail
  go_loopw [5] (fun s wr => ∃ n : Nat, n ≤ lim ∧ s = .int .i64 (n : Int) ∧ Hid (∃ d', Ahead9 W V0 wr ll p c8 c d' wb q nm m r b sv qv vb pb ∧ Inv9 ll d' ∧ finR κ 200 T cl lim lim d = finR κ 200 T cl (lim - n) (lim - n) d')) (fun s _ => lim - (intOf s).toNat)
  case atStart => exact ⟨0, Nat.zero_le _, rfl, d, H.out, HI.out, rfl⟩
  case round =>
    obtain ⟨n, hn, rfl, HX⟩ := hrel
    obtain ⟨d', a0, i0, e0⟩ := HX.out
    obtain ⟨w0, hw0⟩ : ∃ q, q = wr := ⟨_, rfl⟩
    subst hw0
    have HD := keepH (HDN.out _ _ a0)
    have HI0 := keepH i0
    have HE0 := keepH e0
    clear HX a0 i0 e0
    by_cases hd : doneP T cl d'
    · rw [decide_eq_true hd] at HD
      have e1 : finR κ 200 T cl lim lim d = d' := by rw [HE0.out]; exact finR_stop _ _ _ _ _ _ _ (fun e => e.2 hd)
      have HE1 := keepH e1
      have HDD := keepH hd
      clear hd e1
      go_wp2_with fail
      refine HD.out.mono ?_
      rintro e w1 ⟨rfl, a1⟩
      have HA1 := keepH a1
      clear a1
      go_wp2_with fail
      go_ret
      exact ⟨by rw [HE1.out, decide_eq_true HDD.out]; simp, by rw [HE1.out]; exact HA1.out⟩
    · rw [decide_eq_false hd] at HD
      have HND := keepH hd
      clear hd
      obtain ⟨k, hk⟩ : ∃ k, k = lim - n := ⟨_, rfl⟩
      rw [← hk] at HE0
      go_wp2_with fail
      refine HD.out.mono ?_
      rintro e w1 ⟨rfl, a1⟩
      have HA1 := keepH a1
      clear a1
      go_wp2_with fail
      go_loopw [5, 6] (fun s5 s6 wr => ∃ j : Nat, j ≤ T ∧ s6 = .int .i64 (j : Int) ∧ ∃ v : Nat, v ≤ lim ∧ s5 = .int .i64 (v : Int) ∧ Hid (v = n + (turnR κ 200 T cl k d' j).2 ∧ Ahead9 W V0 wr ll p c8 c (turnR κ 200 T cl k d' j).1 wb q nm m r b sv qv vb pb ∧ Inv9 ll (turnR κ 200 T cl k d' j).1 ∧ (k = 0 → ∀ i, i < j → cl i ≤ d'.ix i))) (fun _ s6 _ => T - (intOf s6).toNat)
      case atStart => exact ⟨0, Nat.zero_le _, rfl, n, hn, rfl, rfl, HA1.out, HI0.out, fun _ i hi => by omega⟩
      case round =>
        obtain ⟨j, hj, rfl, v, hv, rfl, HJ⟩ := hrel
        obtain ⟨w2, hw2⟩ : ∃ q, q = wr := ⟨_, rfl⟩
        subst hw2
        obtain ⟨u, hu⟩ : ∃ u, u = turnR κ 200 T cl k d' j := ⟨_, rfl⟩
        have HU := keepH hu
        have HJ2 : Hid (v = n + u.2 ∧ Ahead9 W V0 w2 ll p c8 c u.1 wb q nm m r b sv qv vb pb ∧ Inv9 ll u.1 ∧ (k = 0 → ∀ i, i < j → cl i ≤ d'.ix i)) := by rw [hu]; exact HJ.out
        clear hu HJ
        have v1 := HTH.out _ _ HJ2.out.2.1
        by_cases hjT : j < T
        · have t1 : (j : Int) < (T : Int) := by omega
          have HLQ := keepH (HLF.out _ _ j HJ2.out.2.1)
          by_cases hcan : Cfg.can T cl u.1 (j : Int)
          · rw [decide_eq_true hcan] at HLQ
            by_cases hvl : lim ≤ v
            · have t2 : most ≤ (v : Int) := (HLM.out v).2 hvl
              have HF := keepH (fin_out κ 200 T cl k d' j hjT (by rw [← HU.out]; have := HJ2.out.1; omega) HND.out (by rw [← HU.out]; exact hcan))
              rw [← HU.out, ← HE0.out] at HF
              clear hcan v1
              have v1 := HTH.out _ _ HJ2.out.2.1
              go_wp2_with fail
              refine HLQ.out.mono ?_
              rintro e w3 ⟨rfl, a3⟩
              have HA3 := keepH a3
              clear a3
              go_wp2_with fail
              go_ret
              exact ⟨by rw [HF.out.1, decide_eq_false HF.out.2]; simp, by rw [HF.out.1]; exact HA3.out⟩
            · have t2 : ¬ most ≤ (v : Int) := fun z => hvl ((HLM.out v).1 z)
              have HCN := keepH hcan
              clear hcan
              go_wp2_with fail
              refine HLQ.out.mono ?_
              rintro e w3 ⟨rfl, a3⟩
              have HP3 := keepH (HPK.out _ _ j a3 HJ2.out.2.2.1)
              clear a3
              go_wp2_with fail
              refine HP3.out.mono ?_
              rintro e w4 ⟨bb, rfl, a4⟩
              have HA4 := keepH a4
              clear a4
              go_wp2_with fail
              go_roundw
              case rel =>
                have e1 : turnR κ 200 T cl k d' (j + 1) = (u.1.pick κ 200 T cl (j : Int), u.2 + 1) := by
                  rw [turnR_succ, ← HU.out]
                  unfold tst
                  rw [if_pos ⟨by have := HJ2.out.1; omega, HCN.out⟩]
                refine ⟨j + 1, by omega, by first | rfl | go_num, v + 1, by omega, by first | rfl | go_num, ?_⟩
                rw [e1]
                exact ⟨by have := HJ2.out.1; show _ = n + (u.2 + 1); omega, HA4.out, HIV.out _ _ HJ2.out.2.2.1 HCN.out, fun z => by have := HJ2.out.1; omega⟩
              case measure => simp [intOf]; omega
          · rw [decide_eq_false hcan] at HLQ
            have HCN := keepH hcan
            clear hcan
            go_wp2_with fail
            refine HLQ.out.mono ?_
            rintro e w3 ⟨rfl, a3⟩
            have HA3 := keepH a3
            clear a3
            go_wp2_with fail
            go_roundw
            case rel =>
              have e1 : turnR κ 200 T cl k d' (j + 1) = u := by
                rw [turnR_succ, ← HU.out]
                unfold tst
                rw [if_neg (fun e => HCN.out e.2)]
              refine ⟨j + 1, by omega, by first | rfl | go_num, v, hv, rfl, ?_⟩
              rw [e1]
              refine ⟨HJ2.out.1, HA3.out, HJ2.out.2.2.1, fun z i hi => ?_⟩
              by_cases e : i = j
              · subst e
                have eu : u.1 = d' := by rw [HU.out, z, turnR_none]
                apply Nat.le_of_not_lt
                intro hlt
                exact HCN.out ⟨by omega, by omega, by rw [eu]; simpa using hlt⟩
              · exact HJ2.out.2.2.2 z i (by omega)
            case measure => simp [intOf]; omega
        · have t1 : ¬ (j : Int) < (T : Int) := by omega
          obtain rfl : j = T := by omega
          have hk0 : 0 < k := Nat.pos_of_ne_zero (fun z => HND.out (HJ2.out.2.2.2 z))
          have hpos : 0 < u.2 := by rw [HU.out]; exact turnR_pos κ 200 j cl k d' hk0 HND.out
          have hle : u.2 ≤ k := by rw [HU.out]; exact (turnR_le κ 200 j cl k d' j).1
          have hvv := HJ2.out.1
          have e3 : finR κ 200 j cl lim lim d = finR κ 200 j cl (lim - v) (lim - v) u.1 := by
            rw [HE0.out, finR_turn κ 200 j cl k d' hk0 HND.out, ← HU.out, show k - u.2 = lim - v by omega]
          have HE3 := keepH e3
          clear e3
          go_wp2_with fail
          go_roundw
          case rel => exact ⟨v, hv, rfl, u.1, HJ2.out.2.1, HJ2.out.2.2.1, HE3.out⟩
          case measure => simp [intOf]; omega
end
end Go.Proofs.YtnhiodmigmmfgaaGreat
