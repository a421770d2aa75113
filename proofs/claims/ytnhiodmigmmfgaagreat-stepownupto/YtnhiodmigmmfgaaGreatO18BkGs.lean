/- Two Loads, a thread each: what their steps do. -/
import Derived.Test.YtnhiodmigmmfgaaGreatO11YI1
import Derived.Test.YtnhiodmigmmfgaaGreatO4SNew
import Derived.Test.YtnhiodmigmmfgaaGreatO17PF
import Derived.Test.YtnhiodmigmmfgaaGreatO13YD
import Derived.Laws.OwnMore
import Derived.Test.YtnhiodmigmmfgaaGreatO16PE
namespace Go.Proofs.YtnhiodmigmmfgaaGreat
open Go.RowKit Go.Shelf

def bN (d : Bool) : Nat := if d then 1 else 0
/-- A memory, two views, two Loads. -/
structure LSt (X : World) (F : Nat → Prop) (m b v0 v1 p0 p1 : Nat) (l : List Acc) (d0 d1 : Bool) (x0 x1 : Nat) : Prop where
  bank : Bank X F b 128 1 [] l
  mem : IsMem X m b
  w0 : IsView X v0 b 0 (bN d0)
  w1 : IsView X v1 b 1 (bN d1)
  q0 : IsLoad X p0 5 x0 d0
  q1 : IsLoad X p1 6 x1 d1
  nm : ¬ F m
  n0 : ¬ F v0
  n1 : ¬ F v1
  k0 : ¬ F p0
  k1 : ¬ F p1
  mv : m ≠ v0 ∧ m ≠ v1 ∧ m ≠ p0 ∧ m ≠ p1
  vv : v0 ≠ v1 ∧ v0 ≠ p0 ∧ v0 ≠ p1 ∧ v1 ≠ p0 ∧ v1 ≠ p1 ∧ p0 ≠ p1
def inK (F : Nat → Prop) (m v0 v1 p0 p1 : Nat) (k : Nat) : Prop := F k ∨ k = m ∨ k = v0 ∨ k = v1 ∨ k = p0 ∨ k = p1
def LS (m b v0 v1 p0 p1 : Nat) (n : Nat) (d0 d1 : Bool) (X : World) (K : Nat → Prop) : Prop := ∃ F l x0 x1, LSt X F m b v0 v1 p0 p1 l d0 d1 x0 x1 ∧ l.length = n ∧ K = inK F m v0 v1 p0 p1

theorem LS.keep {m b v0 v1 p0 p1 n : Nat} {d0 d1 : Bool} {X Y : World} {K : Nat → Prop} (h : LS m b v0 v1 p0 p1 n d0 d1 X K) (hs : X.heap.size ≤ Y.heap.size) (hk : ∀ k, K k → Y.heap[k]? = X.heap[k]?) : LS m b v0 v1 p0 p1 n d0 d1 Y K := by
  obtain ⟨F, l, x0, x1, h, hl, rfl⟩ := h
  exact ⟨F, l, x0, x1, { h with bank := h.bank.kept hs (fun k e => hk k (.inl e)), mem := (hk m (.inr (.inl rfl))).trans h.mem, w0 := (hk v0 (.inr (.inr (.inl rfl)))).trans h.w0, w1 := (hk v1 (.inr (.inr (.inr (.inl rfl))))).trans h.w1, q0 := (hk p0 (.inr (.inr (.inr (.inr (.inl rfl)))))).trans h.q0, q1 := (hk p1 (.inr (.inr (.inr (.inr (.inr rfl)))))).trans h.q1 }, hl, rfl⟩
theorem LS.lt {m b v0 v1 p0 p1 n : Nat} {d0 d1 : Bool} {X : World} {K : Nat → Prop} (h : LS m b v0 v1 p0 p1 n d0 d1 X K) (k : Nat) (hk : K k) : k < X.heap.size := by
  obtain ⟨F, l, x0, x1, h, hl, rfl⟩ := h
  obtain ⟨_, _, B⟩ := h.bank
  rcases hk with e | rfl | rfl | rfl | rfl | rfl
  · exact B.lt k e
  · exact h.mem.lt
  · exact h.w0.lt
  · exact h.w1.lt
  · exact lt_of h.q0
  · exact lt_of h.q1
theorem LS.mem {m b v0 v1 p0 p1 n : Nat} {d0 d1 : Bool} {X : World} {K : Nat → Prop} (h : LS m b v0 v1 p0 p1 n d0 d1 X K) : ∃ b F most next cs l, IsMem X m b ∧ Bank X F b most next cs l ∧ l.length = n ∧ (∀ k, F k → K k) ∧ K m := by
  obtain ⟨F, l, x0, x1, h, hl, rfl⟩ := h
  exact ⟨b, F, 128, 1, [], l, h.mem, h.bank, hl, fun k e => .inl e, .inr (.inl rfl)⟩

set_option maxRecDepth 100000 in
theorem ls_step1 {m b v0 v1 p0 p1 n : Nat} {d0 : Bool} (X : World) (K : Nat → Prop) (h : LS m b v0 v1 p0 p1 n d0 false X K) (hn : n < 1099511627776) :
    Calls Tryz.prog 35 #[.iface 73 (.pointer (some ⟨p1, 0, none⟩)), .pointer (some ⟨v1, 0, none⟩)] X fun e X' => ∃ d K', e = .returned (.bool d) ∧ (d = true ∧ LS m b v0 v1 p0 p1 (n + 1) d0 true X' K') ∧ Goes X X' K K' := by
  obtain ⟨F, l, x0, x1, h, hl, rfl⟩ := h
  obtain ⟨mv0, mv1, mp0, mp1⟩ := h.mv
  obtain ⟨a1, a2, a3, a4, a5, a6⟩ := h.vv
  have cA : Chg (fun _ => False) X (X.alloc (.cells #[.bool false] 4)) := (Chg.refl _ X).alloc _
  have hsz : (X.alloc (.cells #[.bool false] 4)).heap.size = X.heap.size + 1 := by simp
  obtain ⟨_, _, B0⟩ := h.bank
  have st := s_stepOf_load ⟨p1, 0, none⟩ (.pointer (some ⟨v1, 0, none⟩)) (fun d X1 => d = true ∧ ∃ F' vs, Bank X1 F' b 128 1 [] (l ++ [⟨1, 1, 6, 0, 0, vs, [], cellN [] 6, false⟩]) ∧ IsView X1 v1 b 1 1 ∧ IsLoad X1 p1 6 (cellN [] 6) true ∧ ¬ F' p1 ∧ ¬ F' v1 ∧ Chg (fun k => (F k ∨ k = v1) ∨ k = p1) (X.alloc (.cells #[.bool false] 4)) X1 ∧ ∀ k, F' k → F k ∨ X.heap.size + 1 ≤ k) X ?_
  · refine st.mono ?_
    rintro e X' ⟨d, X1, rfl, ⟨rfl, F', vs, B1, V1, L1, nf1, nf2, C1, N1⟩, hcell, rfl⟩
    have c2 : Chg (fun k => k = X.heap.size) X1 (X1.setCell ⟨X.heap.size, 0, none⟩ (.bool true)) := (Chg.refl (fun k => k = X.heap.size) X1).setCell (p := ⟨X.heap.size, 0, none⟩) (fun _ => rfl) _
    have cX : Chg (fun k => (F k ∨ k = v1) ∨ k = p1) X (X1.setCell ⟨X.heap.size, 0, none⟩ (.bool true)) := (cA.trans C1 (fun _ _ x => x.elim) (fun _ _ x => x)).trans c2 (fun _ _ x => x) (fun i hi x => by omega)
    have ne : ∀ z, z < X.heap.size → z ≠ X.heap.size := fun z hz => by omega
    have nF' : ∀ z, z < X.heap.size → ¬ F z → ¬ F' z := fun z hz hf e => (N1 z e).elim hf (fun e => by omega)
    have nFx : ¬ F' X.heap.size := fun e => (N1 _ e).elim (fun e => by have := B0.lt _ e; omega) (fun e => by omega)
    refine ⟨true, _, rfl, ⟨rfl, F', _, x0, _, ⟨B1.chg c2 (fun k e e2 => nFx (by rw [← e2]; exact e)), h.mem.chg cX (fun e => by rcases e with (e | e) | e; exact h.nm e; exact mv1 e; exact mp1 e), h.w0.chg cX (fun e => by rcases e with (e | e) | e; exact h.n0 e; exact a1 e; exact a3 e), V1.chg c2 (ne _ h.w1.lt), h.q0.chg cX (fun e => by rcases e with (e | e) | e; exact h.k0 e; exact a4 e.symm; exact a6 e), L1.chg c2 (ne _ (lt_of h.q1)), nF' _ h.mem.lt h.nm, nF' _ h.w0.lt h.n0, nf2, nF' _ (lt_of h.q0) h.k0, nf1, h.mv, h.vv⟩, by simp [hl], rfl⟩, ⟨cX.mono (fun k _ e => by rcases e with (e | e) | e; exact .inl e; exact .inr (.inr (.inr (.inl e))); exact .inr (.inr (.inr (.inr (.inr e))))), fun k e => ?_⟩⟩
    rcases e with e | e
    · exact (N1 k e).elim (fun e => .inl (.inl e)) (fun e => .inr (by omega))
    · exact .inl (.inr e)
  · refine (load_step p1 6 x1 v1 b 128 1 0 1 F [] l _ (h.q1.chg cA (fun h => h)) (h.w1.chg cA (fun h => h)) (h.bank.chg cA (fun _ _ h => h)) h.n1 h.k1 (fun e => a5 e.symm) (by omega) (by omega) (by omega)).mono ?_
    rintro e X1 ⟨rfl, F', vs, B1, V1, L1, nf1, nf2, C1, N1⟩
    refine ⟨true, rfl, ⟨rfl, F', vs, B1, V1, L1, nf1, nf2, C1, fun k e => by have := N1 k e; rw [hsz] at this; exact this⟩, ?_⟩
    exact (C1.block _ (by simp) (fun e => by
      rcases e with (e | e) | e
      · have := B0.lt _ e
        omega
      · have := h.w1.lt
        omega
      · have := lt_of h.q1
        omega)).trans (heap_alloc_new _ _)
set_option maxRecDepth 100000 in
theorem ls_step0 {m b v0 v1 p0 p1 n : Nat} {d1 : Bool} (X : World) (K : Nat → Prop) (h : LS m b v0 v1 p0 p1 n false d1 X K) (hn : n < 1099511627776) :
    Calls Tryz.prog 35 #[.iface 73 (.pointer (some ⟨p0, 0, none⟩)), .pointer (some ⟨v0, 0, none⟩)] X fun e X' => ∃ d K', e = .returned (.bool d) ∧ (d = true ∧ LS m b v0 v1 p0 p1 (n + 1) true d1 X' K') ∧ Goes X X' K K' := by
  obtain ⟨F, l, x0, x1, h, hl, rfl⟩ := h
  obtain ⟨mv0, mv1, mp0, mp1⟩ := h.mv
  obtain ⟨a1, a2, a3, a4, a5, a6⟩ := h.vv
  have cA : Chg (fun _ => False) X (X.alloc (.cells #[.bool false] 4)) := (Chg.refl _ X).alloc _
  have hsz : (X.alloc (.cells #[.bool false] 4)).heap.size = X.heap.size + 1 := by simp
  obtain ⟨_, _, B0⟩ := h.bank
  have st := s_stepOf_load ⟨p0, 0, none⟩ (.pointer (some ⟨v0, 0, none⟩)) (fun d X1 => d = true ∧ ∃ F' vs, Bank X1 F' b 128 1 [] (l ++ [⟨0, 1, 5, 0, 0, vs, [], cellN [] 5, false⟩]) ∧ IsView X1 v0 b 0 1 ∧ IsLoad X1 p0 5 (cellN [] 5) true ∧ ¬ F' p0 ∧ ¬ F' v0 ∧ Chg (fun k => (F k ∨ k = v0) ∨ k = p0) (X.alloc (.cells #[.bool false] 4)) X1 ∧ ∀ k, F' k → F k ∨ X.heap.size + 1 ≤ k) X ?_
  · refine st.mono ?_
    rintro e X' ⟨d, X1, rfl, ⟨rfl, F', vs, B1, V1, L1, nf1, nf2, C1, N1⟩, hcell, rfl⟩
    have c2 : Chg (fun k => k = X.heap.size) X1 (X1.setCell ⟨X.heap.size, 0, none⟩ (.bool true)) := (Chg.refl (fun k => k = X.heap.size) X1).setCell (p := ⟨X.heap.size, 0, none⟩) (fun _ => rfl) _
    have cX : Chg (fun k => (F k ∨ k = v0) ∨ k = p0) X (X1.setCell ⟨X.heap.size, 0, none⟩ (.bool true)) := (cA.trans C1 (fun _ _ x => x.elim) (fun _ _ x => x)).trans c2 (fun _ _ x => x) (fun i hi x => by omega)
    have ne : ∀ z, z < X.heap.size → z ≠ X.heap.size := fun z hz => by omega
    have nF' : ∀ z, z < X.heap.size → ¬ F z → ¬ F' z := fun z hz hf e => (N1 z e).elim hf (fun e => by omega)
    have nFx : ¬ F' X.heap.size := fun e => (N1 _ e).elim (fun e => by have := B0.lt _ e; omega) (fun e => by omega)
    refine ⟨true, _, rfl, ⟨rfl, F', _, _, x1, ⟨B1.chg c2 (fun k e e2 => nFx (by rw [← e2]; exact e)), h.mem.chg cX (fun e => by rcases e with (e | e) | e; exact h.nm e; exact mv0 e; exact mp0 e), V1.chg c2 (ne _ h.w0.lt), h.w1.chg cX (fun e => by rcases e with (e | e) | e; exact h.n1 e; exact a1 e.symm; exact a4 e), L1.chg c2 (ne _ (lt_of h.q0)), h.q1.chg cX (fun e => by rcases e with (e | e) | e; exact h.k1 e; exact a3 e.symm; exact a6 e.symm), nF' _ h.mem.lt h.nm, nf2, nF' _ h.w1.lt h.n1, nf1, nF' _ (lt_of h.q1) h.k1, h.mv, h.vv⟩, by simp [hl], rfl⟩, ⟨cX.mono (fun k _ e => by rcases e with (e | e) | e; exact .inl e; exact .inr (.inr (.inl e)); exact .inr (.inr (.inr (.inr (.inl e))))), fun k e => ?_⟩⟩
    rcases e with e | e
    · exact (N1 k e).elim (fun e => .inl (.inl e)) (fun e => .inr (by omega))
    · exact .inl (.inr e)
  · refine (load_step p0 5 x0 v0 b 128 1 0 0 F [] l _ (h.q0.chg cA (fun h => h)) (h.w0.chg cA (fun h => h)) (h.bank.chg cA (fun _ _ h => h)) h.n0 h.k0 (fun e => a2 e.symm) (by omega) (by omega) (by omega)).mono ?_
    rintro e X1 ⟨rfl, F', vs, B1, V1, L1, nf1, nf2, C1, N1⟩
    refine ⟨true, rfl, ⟨rfl, F', vs, B1, V1, L1, nf1, nf2, C1, fun k e => by have := N1 k e; rw [hsz] at this; exact this⟩, ?_⟩
    exact (C1.block _ (by simp) (fun e => by
      rcases e with (e | e) | e
      · have := B0.lt _ e
        omega
      · have := h.w0.lt
        omega
      · have := lt_of h.q0
        omega)).trans (heap_alloc_new _ _)
end Go.Proofs.YtnhiodmigmmfgaaGreat
/- What must be whatever is asked (package step). -/
namespace Go.Proofs.YtnhiodmigmmfgaaGreat
open Go.RowKit Go.Shelf

theorem row_of {W : World} {g n s : Nat} {cs : Array Value} {e : TypeId} (h : W.heap[g]? = some (.cells cs e (0, 0))) (hs : cs.size = n * s) (hn : n ≤ 1099511627776) : W.ownsRow 0 e s (.slice (some ⟨g, 0, none⟩) n n) n cs.toList :=
  ⟨by simpa using hs, .inr ⟨g, n, cs, rfl, Nat.zero_le _, h, Nat.le_refl _, by unfold maxLen; omega, hs, by rw [List.take_of_length_le]; simp; omega⟩⟩

def loadI (p : Nat) : Value := .iface 73 (.pointer (some ⟨p, 0, none⟩))
def twoL (p0 s0 p1 s1 : Nat) : List (Value × List Value) := [(.slice (some ⟨s0, 0, none⟩) 1 1, [loadI p0]), (.slice (some ⟨s1, 0, none⟩) 1 1, [loadI p1])]
theorem twoL_ok (p0 s0 p1 s1 : Nat) : tooLongB (twoL p0 s0 p1 s1) = false := by simp [tooLongB, twoL]

theorem two_of {α : Type} {l : List α} (h : l.length = 2) : ∃ a b, l = [a, b] := by
  match l, h with
  | [a, b], _ => exact ⟨a, b, rfl⟩

/-- A runner of two Loads that has had no pick. -/
theorem live_start {W6 W7 : World} {G : Nat → Prop} {r m b p0 s0 p1 s1 : Nat} {tv : Value} {ths : List Thr} {vbs : List Nat} (hm : IsMem W6 m b) (hb : Bank W6 (fun k => k = b) b 128 1 [] []) (q0 : IsLoad W6 p0 5 0 false) (q1 : IsLoad W6 p1 6 0 false) (h : Made W6 W7 G r m b tv (twoL p0 s0 p1 s1) ths vbs 2) (hl : ths.length = 2) (hd : m ≠ b ∧ p0 ≠ b ∧ p1 ≠ b ∧ m ≠ p0 ∧ m ≠ p1 ∧ p0 ≠ p1) :
    ∃ v0 v1 c0 c1 g c, vbs = [v0, v1] ∧ ths = [⟨c0, [loadI p0], 0, false⟩, ⟨c1, [loadI p1], 0, false⟩] ∧ tv = .slice (some ⟨g, 0, none⟩) 2 c ∧ LS m b v0 v1 p0 p1 0 false false W7 (inK (fun k => k = b) m v0 v1 p0 p1) ∧ (∀ k, G k → ¬ inK (fun k => k = b) m v0 v1 p0 p1 k) := by
  obtain ⟨v0, v1, rfl⟩ := two_of h.vl
  obtain ⟨t0, t1, rfl⟩ := two_of hl
  obtain ⟨g, c, htv⟩ := slice_pos h.run.tr (by simp)
  obtain ⟨y0, hy0, e0, e1, e2⟩ := h.thr 0 t0 rfl
  obtain ⟨y1, hy1, f0, f1, f2⟩ := h.thr 1 t1 rfl
  simp [twoL] at hy0 hy1
  subst hy0 hy1
  obtain ⟨a0, a1, a2⟩ := h.views 0 v0 rfl
  obtain ⟨b0, b1, b2⟩ := h.views 1 v1 rfl
  have hvv := h.apart 0 1 v0 v1 (by omega) rfl rfl
  have lm := hm.lt
  have l0 := lt_of q0
  have l1 := lt_of q1
  have lb : b < W6.heap.size := by obtain ⟨_, _, B⟩ := hb; exact B.lt b rfl
  refine ⟨v0, v1, t0.cv, t1.cv, g, c, rfl, ?_, by simpa using htv, ⟨fun k => k = b, [], 0, 0, ⟨hb.chg h.chg (fun _ _ h => h), hm.chg h.chg (fun h => h), a0, b0, q0.chg h.chg (fun h => h), q1.chg h.chg (fun h => h), by omega, by omega, by omega, by omega, by omega, by omega, by omega⟩, rfl, rfl⟩, fun k hk e => ?_⟩
  · cases t0
    cases t1
    simp_all
  · have hW := h.inG k hk
    rcases e with e | e | e | e | e | e
    · omega
    · omega
    · exact a2 (by rw [← e]; exact hk)
    · exact b2 (by rw [← e]; exact hk)
    · omega
    · omega

theorem live_lists (W1 W6 : World) (hW : W6 = (((((W1.alloc (.cells #[.int .u64 5, .int .u64 0, .bool false] 139)).alloc (.cells #[.iface 73 (.pointer (some ⟨W1.heap.size, 0, none⟩))] 91)).alloc (.cells #[.int .u64 6, .int .u64 0, .bool false] 139)).alloc (.cells #[.iface 73 (.pointer (some ⟨W1.heap.size + 1 + 1, 0, none⟩))] 91)).alloc (.cells #[.slice (some ⟨W1.heap.size + 1, 0, none⟩) 1 1, .slice (some ⟨W1.heap.size + 1 + 1 + 1, 0, none⟩) 1 1] 76))) :
    Chg (fun _ => False) W1 W6 ∧ IsLoad W6 W1.heap.size 5 0 false ∧ IsLoad W6 (W1.heap.size + 1 + 1) 6 0 false ∧ Lists W6 (.slice (some ⟨W1.heap.size + 1 + 1 + 1 + 1, 0, none⟩) 2 2) (twoL W1.heap.size (W1.heap.size + 1) (W1.heap.size + 1 + 1) (W1.heap.size + 1 + 1 + 1)) := by
  obtain ⟨a1, ha1⟩ : ∃ a1, a1 = W1.alloc (.cells #[.int .u64 5, .int .u64 0, .bool false] 139) := ⟨_, rfl⟩
  obtain ⟨a2, ha2⟩ : ∃ a2, a2 = a1.alloc (.cells #[.iface 73 (.pointer (some ⟨W1.heap.size, 0, none⟩))] 91) := ⟨_, rfl⟩
  obtain ⟨a3, ha3⟩ : ∃ a3, a3 = a2.alloc (.cells #[.int .u64 6, .int .u64 0, .bool false] 139) := ⟨_, rfl⟩
  obtain ⟨a4, ha4⟩ : ∃ a4, a4 = a3.alloc (.cells #[.iface 73 (.pointer (some ⟨W1.heap.size + 1 + 1, 0, none⟩))] 91) := ⟨_, rfl⟩
  rw [← ha1, ← ha2, ← ha3, ← ha4] at hW
  have z1 : a1.heap.size = W1.heap.size + 1 := by rw [ha1]; simp
  have z2 : a2.heap.size = W1.heap.size + 1 + 1 := by rw [ha2]; simp [z1]
  have z3 : a3.heap.size = W1.heap.size + 1 + 1 + 1 := by rw [ha3]; simp [z2]
  have z4 : a4.heap.size = W1.heap.size + 1 + 1 + 1 + 1 := by rw [ha4]; simp [z3]
  have g1 : a1.heap[W1.heap.size]? = some (.cells #[.int .u64 5, .int .u64 0, .bool false] 139 (0, 0)) := by rw [ha1]; exact heap_alloc_new _ _
  have g2 : a2.heap[W1.heap.size + 1]? = some (.cells #[.iface 73 (.pointer (some ⟨W1.heap.size, 0, none⟩))] 91 (0, 0)) := by rw [ha2, ← z1]; exact heap_alloc_new _ _
  have g3 : a3.heap[W1.heap.size + 1 + 1]? = some (.cells #[.int .u64 6, .int .u64 0, .bool false] 139 (0, 0)) := by rw [ha3, ← z2]; exact heap_alloc_new _ _
  have g4 : a4.heap[W1.heap.size + 1 + 1 + 1]? = some (.cells #[.iface 73 (.pointer (some ⟨W1.heap.size + 1 + 1, 0, none⟩))] 91 (0, 0)) := by rw [ha4, ← z3]; exact heap_alloc_new _ _
  have g5 : W6.heap[W1.heap.size + 1 + 1 + 1 + 1]? = some (.cells #[.slice (some ⟨W1.heap.size + 1, 0, none⟩) 1 1, .slice (some ⟨W1.heap.size + 1 + 1 + 1, 0, none⟩) 1 1] 76 (0, 0)) := by rw [hW, ← z4]; exact heap_alloc_new _ _
  have c6 : Chg (fun _ => False) a4 W6 := by rw [hW]; exact (Chg.refl _ _).alloc _
  have c4 : Chg (fun _ => False) a3 W6 := by rw [ha4] at c6; exact ((Chg.refl _ a3).alloc _).trans c6 (fun _ _ x => x) (fun _ _ x => x)
  have c3 : Chg (fun _ => False) a2 W6 := by rw [ha3] at c4; exact ((Chg.refl _ a2).alloc _).trans c4 (fun _ _ x => x) (fun _ _ x => x)
  have c2 : Chg (fun _ => False) a1 W6 := by rw [ha2] at c3; exact ((Chg.refl _ a1).alloc _).trans c3 (fun _ _ x => x) (fun _ _ x => x)
  have c1 : Chg (fun _ => False) W1 W6 := by rw [ha1] at c2; exact ((Chg.refl _ W1).alloc _).trans c2 (fun _ _ x => x) (fun _ _ x => x)
  have h2 := (c3.block _ (by omega) (fun h => h)).trans g2
  have h4 := (c6.block _ (by omega) (fun h => h)).trans g4
  refine ⟨c1, (c2.block _ (by omega) (fun h => h)).trans g1, (c4.block _ (by omega) (fun h => h)).trans g3, ⟨?_, ?_, ?_⟩⟩
  · exact row_of (n := 2) (s := 1) g5 rfl (by omega)
  · intro x hx
    simp [twoL] at hx
    rcases hx with rfl | rfl
    · exact row_of (n := 1) (s := 1) h2 rfl (by omega)
    · exact row_of (n := 1) (s := 1) h4 rfl (by omega)
  · intro x hx u hu
    simp [twoL] at hx
    rcases hx with rfl | rfl
    · simp at hu
      subst hu
      rfl
    · simp at hu
      subst hu
      rfl

set_option maxRecDepth 100000 in
set_option maxHeartbeats 8000000 in
theorem s_live (W : World) : Calls Tryz.prog 6 #[] W fun e W' => e = .returned (.bool true) ∧ Chg (fun _ => False) W W' := by
  go_enter Tryz.func6, Tryz.ntmps6
  go_wp2_with fail
  refine (m_new 128 W (by omega)).mono ?_
  rintro e W1 ⟨rfl, M1, B1, C1, S1⟩
  have HM1 := keepH M1
  have HB1 := keepH B1
  have HS1 := keepH S1
  have HC1 := keepH C1
  clear M1 B1 S1 C1
  go_wp2_with fail
  refine (load_new 5 _).mono ?_
  rintro e w ⟨rfl, rfl⟩
  go_wp2_with fail
  refine (load_new 6 _).mono ?_
  rintro e w ⟨rfl, rfl⟩
  go_wp2_with fail
  obtain ⟨W6, hW6⟩ : ∃ W6, W6 = (((((W1.alloc (.cells #[.int .u64 5, .int .u64 0, .bool false] 139)).alloc (.cells #[.iface 73 (.pointer (some ⟨W1.heap.size, 0, none⟩))] 91)).alloc (.cells #[.int .u64 6, .int .u64 0, .bool false] 139)).alloc (.cells #[.iface 73 (.pointer (some ⟨W1.heap.size + 1 + 1, 0, none⟩))] 91)).alloc (.cells #[.slice (some ⟨W1.heap.size + 1, 0, none⟩) 1 1, .slice (some ⟨W1.heap.size + 1 + 1 + 1, 0, none⟩) 1 1] 76)) := ⟨_, rfl⟩
  rw [← hW6]
  obtain ⟨cL, l0, l1, LL⟩ := live_lists W1 W6 hW6
  have HL := keepH LL
  have HC6 := keepH (HC1.out.trans cL (H := fun _ => False) (fun _ _ x => x) (fun _ _ x => x))
  have HM6 := keepH (HM1.out.chg cL (fun h => h))
  have HB6 := keepH (HB1.out.chg cL (fun _ _ h => h))
  have Hl0 := keepH l0
  have Hl1 := keepH l1
  obtain ⟨n, hn⟩ : ∃ n, n = W1.heap.size := ⟨_, rfl⟩
  rw [← hn] at HL Hl0 Hl1 ⊢
  have HN := keepH hn
  clear hW6 cL l0 l1 LL hn
  refine (s_new (W.heap.size + 1) W.heap.size _ _ W6 HM6.out HL.out (twoL_ok _ _ _ _)).mono ?_
  rintro e W7 ⟨r, G, tv, ths, vbs, rfl, MD, hl⟩
  obtain ⟨v0, v1, c0, c1, g, c, rfl, rfl, rfl, LS7, D7⟩ := live_start HM6.out HB6.out Hl0.out Hl1.out MD hl (by have := HS1.out; have := HN.out; omega)
  have HR7 := keepH MD.run
  have HC7 := keepH (HC6.out.trans MD.chg (H := fun _ => False) (fun _ _ x => x) (fun _ _ x => x))
  have HLS7 := keepH LS7
  have HD7 := keepH D7
  have hGW : Hid (∀ k, G k → W.heap.size ≤ k) := fun k e => by have := MD.inG k e; have := HC6.out.size; omega
  have hKW : Hid (∀ k, inK (fun k => k = W.heap.size) (W.heap.size + 1) v0 v1 n (n + 1 + 1) k → W.heap.size ≤ k) := fun k e => by
    have h1 := (MD.views 0 v0 rfl).2.1
    have h2 := (MD.views 1 v1 rfl).2.1
    have h3 := HN.out
    have h4 := HS1.out
    have h5 := HC6.out.size
    rcases e with e | e | e | e | e | e <;> omega
  clear LS7 D7 MD hl HM6 HB6 Hl0 Hl1 HL HM1 HB1 HC1
  go_wp2_with fail
  refine (r_pick_in (vb := v1) (ths := [⟨c0, [loadI n], 0, false⟩, ⟨c1, [loadI (n + 1 + 1)], 0, false⟩]) (LS (W.heap.size + 1) W.heap.size v0 v1 n (n + 1 + 1) 0 false false) (fun d X K => d = true ∧ LS (W.heap.size + 1) W.heap.size v0 v1 n (n + 1 + 1) 1 false true X K) 0 (fun _ => 1) 1 ⟨c1, [loadI (n + 1 + 1)], 0, false⟩ (loadI (n + 1 + 1)) W7 HR7.out rfl (by simp) rfl rfl HLS7.out HD7.out
    (fun X Y K h hs hk => LS.keep h hs hk) (fun X K h => LS.lt h) (fun X K h => LS.mem h) (fun d X Y K h hs hk => ⟨h.1, LS.keep h.2 hs hk⟩) (fun d X K h => LS.lt h.2) (fun d X K h => LS.mem h.2)
    (fun X K h => ls_step1 X K h (by omega)) (by omega) (by simp) (by omega) (fun _ => by omega)).mono ?_
  rintro e W8 ⟨d, G8, K8, ev8, av8, rfl, R8, ⟨rfl, LS8⟩, D8, GG8⟩
  have HR8 := keepH R8
  have HLS8 := keepH LS8
  have HD8 := keepH D8
  have HG8 := keepH GG8
  clear R8 LS8 D8 GG8 HR7 HLS7 HD7
  go_wp2_with fail
  refine (r_pick_out 7 W8 HR8.out (.inr (by simp)) (by omega)).mono ?_
  rintro e W9 ⟨rfl, R9, GG9⟩
  have HR9 := keepH R9
  have HG9 := keepH GG9
  clear R9 GG9 HR8
  go_wp2_with fail
  refine (r_pick_done (ths := [⟨c0, [loadI n], 0, false⟩, pickThr ⟨c1, [loadI (n + 1 + 1)], 0, false⟩ true]) 1 (pickThr ⟨c1, [loadI (n + 1 + 1)], 0, false⟩ true) W9 HR9.out rfl (by simp [pickThr]) (by omega)).mono ?_
  rintro e W10 ⟨rfl, R10, GG10⟩
  have HR10 := keepH R10
  have HG10 := keepH GG10
  clear R10 GG10 HR9
  go_wp2_with fail
  refine (r_done W10 HR10.out).mono ?_
  rintro e w ⟨rfl, q, rfl⟩
  have t1 : allDone [⟨c0, [loadI n], 0, false⟩, pickThr ⟨c1, [loadI (n + 1 + 1)], 0, false⟩ true] = false := rfl
  have LS10 : Hid (LS (W.heap.size + 1) W.heap.size v0 v1 n (n + 1 + 1) 1 false true (W10.drewN q) K8) := (HLS8.out.keep HG9.out.chg.size (fun k hk => HG9.out.chg.block k (HLS8.out.lt k hk) (fun e => HD8.out k e hk))).keep (Nat.le_trans HG10.out.chg.size (Nat.le_refl _)) (fun k hk => HG10.out.chg.block k (Nat.lt_of_lt_of_le (HLS8.out.lt k hk) HG9.out.chg.size) (fun e => HD8.out k e hk))
  have HR11 := keepH (HR10.out.kept (W' := W10.drewN q) (Nat.le_refl _) (fun _ _ => rfl))
  clear HR10
  go_wp2_with fail
  refine (r_pick_in (vb := v0) (ths := [⟨c0, [loadI n], 0, false⟩, pickThr ⟨c1, [loadI (n + 1 + 1)], 0, false⟩ true]) (LS (W.heap.size + 1) W.heap.size v0 v1 n (n + 1 + 1) 1 false true) (fun d X K => d = true ∧ LS (W.heap.size + 1) W.heap.size v0 v1 n (n + 1 + 1) 2 true true X K) 1 (fun _ => 2) 0 ⟨c0, [loadI n], 0, false⟩ (loadI n) (W10.drewN q) HR11.out rfl (by simp) rfl rfl LS10.out HD8.out
    (fun X Y K h hs hk => LS.keep h hs hk) (fun X K h => LS.lt h) (fun X K h => LS.mem h) (fun d X Y K h hs hk => ⟨h.1, LS.keep h.2 hs hk⟩) (fun d X K h => LS.lt h.2) (fun d X K h => LS.mem h.2)
    (fun X K h => ls_step0 X K h (by omega)) (by omega) (by simp [pickEvs]) (by omega) (fun _ => by omega)).mono ?_
  rintro e W12 ⟨d, G12, K12, ev12, av12, rfl, R12, ⟨rfl, LS12⟩, D12, GG12⟩
  have HR12 := keepH R12
  have HLS12 := keepH LS12
  have HC12 : Hid (Chg (fun _ => False) W W12) := by
    have a1 := HC7.out.trans HG8.out.chg (H := fun _ => False) (fun _ _ x => x) (fun k hk e => by rcases e with e | e; have := hGW.out k e; omega; have := hKW.out k e; omega)
    have n8 : ∀ k, G8 k ∨ K8 k → W.heap.size ≤ k := fun k e => (HG8.out.new k e).elim (fun e => e.elim (hGW.out k) (hKW.out k)) (fun e => Nat.le_trans HC7.out.size e)
    have a2 := a1.trans HG9.out.chg (H := fun _ => False) (fun _ _ x => x) (fun k hk e => by have := n8 k (.inl e); omega)
    have a3 := a2.trans HG10.out.chg (H := fun _ => False) (fun _ _ x => x) (fun k hk e => by have := n8 k (.inl e); omega)
    have a4 := a3.trans (Goes.drewN W10 (fun _ => False) q).chg (H := fun _ => False) (fun _ _ x => x) (fun _ _ x => x)
    exact a4.trans GG12.chg (fun _ _ x => x) (fun k hk e => by have := n8 k e; omega)
  clear R12 LS12 D12 GG12 HR11 LS10 HG8 HG9 HG10 HC7
  go_wp2_with fail
  refine (r_done W12 HR12.out).mono ?_
  rintro e w ⟨rfl, q2, rfl⟩
  have t2 : allDone [pickThr ⟨c0, [loadI n], 0, false⟩ true, pickThr ⟨c1, [loadI (n + 1 + 1)], 0, false⟩ true] = true := rfl
  have HR13 := keepH (HR12.out.kept (W' := W12.drewN q2) (Nat.le_refl _) (fun _ _ => rfl))
  go_wp2_with fail
  refine (r_steps _ HR13.out).mono ?_
  rintro e w ⟨rfl, rfl⟩
  obtain ⟨evs, ats, hel, hal, ev13, av13, G13, HRx⟩ : ∃ (evs : List Ev) (ats : List Int), evs.length = 4 ∧ ats.length = 2 ∧ ∃ ev av G, Hid (RunAt (W12.drewN q2) G r (W.heap.size + 1) (vwOf [v0, v1]) (.slice (some ⟨g, 0, none⟩) 2 c) ev av [pickThr ⟨c0, [loadI n], 0, false⟩ true, pickThr ⟨c1, [loadI (n + 1 + 1)], 0, false⟩ true] 4 evs ats) := ⟨_, _, rfl, rfl, _, _, _, HR13.out⟩
  clear HR12 HR13
  go_wp2_with fail
  refine (r_events _ HRx.out (by omega)).mono ?_
  rintro e W14 ⟨p14, c14, rfl, R14, C14, B14⟩
  have HR14 := keepH (HRx.out.chg C14 (fun _ _ h => h))
  have LS14 := keepH ((HLS12.out.keep (Y := W12.drewN q2) (Nat.le_refl _) (fun _ _ => rfl)).keep C14.size (fun k hk => C14.block k (HLS12.out.lt k hk) (fun h => h)))
  have HC14 := keepH ((HC12.out.trans (Goes.drewN W12 (fun _ => False) q2).chg (H := fun _ => False) (fun _ _ x => x) (fun _ _ x => x)).trans C14 (H := fun _ => False) (fun _ _ x => x) (fun _ _ x => x))
  clear R14 C14 B14 HRx
  go_wp2_with fail
  obtain ⟨b', F', most', next', cs', l', hm', hb', hll', _, _⟩ := LS14.out.mem
  have he2 : (extN ats l'.length (-1)).length = 2 := by rw [extN_length, hal, hll']; rfl
  refine (r_at _ HR14.out hm' hb' (by omega) (by omega)).mono ?_
  rintro e W15 ⟨p15, c15, rfl, R15, C15, B15⟩
  have HC15 := keepH (HC14.out.trans C15 (H := fun _ => False) (fun _ _ x => x) (fun _ _ x => x))
  clear R15 C15 B15 hm' hb' hll'
  go_wp2_with fail
  go_ret
  exact ⟨by simp, HC15.out⟩
end Go.Proofs.YtnhiodmigmmfgaaGreat
/- StepPicks, walked. -/
namespace Go.Proofs.YtnhiodmigmmfgaaGreat
open Go.RowKit Go.Shelf
set_option linter.unusedVariables false

/-- Both have made the same picks. -/
structure Same9 (W V0 X : World) (ll : List (List PlP)) (p : Option Addr) (c8 : Nat) (c : Cfg PS) (wb q nm m r b : Nat) (sv : Value) (qv : Nat → Value) (vb : Nat → Nat) (pb : Nat → Nat → Nat) : Prop where
  ex : ∃ s, HWx W V0 X ll p c8 c s wb q nm m r b sv qv vb pb ∧ DRx ll.length (clOf ll) c s
theorem c0_vals {W : World} {p : Option Addr} {ll : List (List PlP)} {ap : Nat → Option Addr} {ac : Nat → Nat} {lp : Nat → Nat → Option Addr} {lc : Nat → Nat → Nat} (hP : ThsAt W W.heap.size p ll ap ac lp lc) (l : List Int) : PInv ll.length (clOf ll) (qOf ll) ((c0Of ll lp lc).run (plK W.heap.size W) 200 ll.length (clOf ll) l) ∧ ∀ x ∈ ((c0Of ll lp lc).run (plK W.heap.size W) 200 ll.length (clOf ll) l).t, x.vals.length ≤ 1099511627776 :=
  run_vals (fun i j hi hj d hd => (((hP i (lOf ll i) (lOf_get hi)).2 j (qOf ll i j) (qOf_get hj)).2 _ d (List.getElem?_of_mem hd).choose_spec).1.len) l _ (pinv_start ll lp lc) (fun x hx => by
      have hx' : x ∈ [(⟨9, 2, 50, 3, 0, .slice none 0 0, [], 0, false⟩ : Acc)] := hx
      simp at hx'
      rw [hx']
      simp)
section
variable {W V0 X : World} {ll : List (List PlP)} {p : Option Addr} {c8 : Nat} {c : Cfg PS} {wb q nm m r b : Nat} {sv : Value} {qv : Nat → Value} {vb : Nat → Nat} {pb : Nat → Nat → Nat}
theorem Same9.alike (h : Same9 W V0 X ll p c8 c wb q nm m r b sv qv vb pb) (hWV : Chg (fun _ => False) W V0) {ap : Nat → Option Addr} {ac : Nat → Nat} {lp : Nat → Nat → Option Addr} {lc : Nat → Nat → Nat} (hP : ThsAt W W.heap.size p ll ap ac lp lc) (hls : ∀ l ∈ ll, l.length ≤ 1048576) (hI : PInv ll.length (clOf ll) (qOf ll) c) (hst : c.st ≤ 16777216) (hv : ∀ x ∈ c.t, x.vals.length ≤ 1099511627776) :
    Calls Tryz.prog 10 #[.pointer (some ⟨wb, 0, none⟩), .pointer (some ⟨q, 0, none⟩)] X fun e Y => e = .returned (.bool true) ∧ Same9 W V0 Y ll p c8 c wb q nm m r b sv qv vb pb := by
  obtain ⟨s, h1, h2⟩ := h.ex
  obtain ⟨gg, pe, ce, pw, cw, pa, ca, ps, cs, A, Pd, gv, l4, es, ha⟩ := asks h1 hWV hP h2 hI hls hst hv
  refine (alike_walk ha).mono ?_
  rintro e Y ⟨rfl, cc⟩
  exact ⟨rfl, s, h1.quiet cc, h2⟩
theorem Same9.chg (h : Same9 W V0 X ll p c8 c wb q nm m r b sv qv vb pb) : Chg (fun _ => False) V0 X := by
  obtain ⟨s, h1, h2⟩ := h.ex
  exact h1.chg
theorem Same9.cell (h : Same9 W V0 X ll p c8 c wb q nm m r b sv qv vb pb) : X.cell? ⟨wb, 1, none⟩ = some (.pointer (some ⟨r, 0, none⟩)) := by
  obtain ⟨s, h1, h2⟩ := h.ex
  exact h1.cell.1
theorem Same9.quiet {Y : World} (h : Same9 W V0 X ll p c8 c wb q nm m r b sv qv vb pb) (g : Chg (fun _ => False) X Y) : Same9 W V0 Y ll p c8 c wb q nm m r b sv qv vb pb := by
  obtain ⟨s, h1, h2⟩ := h.ex
  exact ⟨s, h1.quiet g, h2⟩
/-- The program ahead by one pick. -/
structure Ahead9 (W V0 X : World) (ll : List (List PlP)) (p : Option Addr) (c8 : Nat) (c d : Cfg PS) (wb q nm m r b : Nat) (sv : Value) (qv : Nat → Value) (vb : Nat → Nat) (pb : Nat → Nat → Nat) : Prop where
  ex : ∃ s, HWx W V0 X ll p c8 c s wb q nm m r b sv qv vb pb ∧ DRx ll.length (clOf ll) d s
theorem Same9.pick (h : Same9 W V0 X ll p c8 c wb q nm m r b sv qv vb pb) (th : Int) (hst : c.st ≤ 16777216) : Calls Tryz.prog 8 #[.pointer (some ⟨r, 0, none⟩), .int .i64 th] X fun e Y => e = .returned (.bool (decide (Cfg.can ll.length (clOf ll) c th))) ∧ Ahead9 W V0 Y ll p c8 (c.pick (plK W.heap.size W) 200 ll.length (clOf ll) th) c wb q nm m r b sv qv vb pb := by
  obtain ⟨s, h1, h2⟩ := h.ex
  refine (hwx_pickP h1 th hst).mono ?_
  rintro e Y ⟨rfl, h3⟩
  exact ⟨rfl, s, h3, h2⟩
theorem Ahead9.chg {d : Cfg PS} (h : Ahead9 W V0 X ll p c8 c d wb q nm m r b sv qv vb pb) : Chg (fun _ => False) V0 X ∧ X.cell? ⟨wb, 1, none⟩ = some (.pointer (some ⟨r, 0, none⟩)) := by
  obtain ⟨s, h1, h2⟩ := h.ex
  exact ⟨h1.chg, h1.cell.1⟩
theorem Ahead9.pick {d : Cfg PS} (h : Ahead9 W V0 X ll p c8 c d wb q nm m r b sv qv vb pb) (hWV : Chg (fun _ => False) W V0) {ap : Nat → Option Addr} {ac : Nat → Nat} {lp : Nat → Nat → Option Addr} {lc : Nat → Nat → Nat} (hP : ThsAt W W.heap.size p ll ap ac lp lc) (hls : ∀ l ∈ ll, l.length ≤ 1048576) (hL : ∀ l ∈ ll, ∀ q ∈ l, q.L.length ≤ 1048576) (hI : PInv ll.length (clOf ll) (qOf ll) d) (hst : d.st ≤ 16777216) (th : Int) : Calls Tryz.prog 9 #[.pointer (some ⟨q, 0, none⟩), .int .i64 th] X fun e Y => e = .returned (.bool (decide (Cfg.can ll.length (clOf ll) d th))) ∧ Ahead9 W V0 Y ll p c8 c (d.pick (plK W.heap.size W) 200 ll.length (clOf ll) th) wb q nm m r b sv qv vb pb := by
  obtain ⟨s, h1, h2⟩ := h.ex
  refine (hwx_pickD h1 hWV hP hls hL h2 hI (by rw [h2.st]; exact hst) th).mono ?_
  rintro e Y ⟨rfl, s', h3, -, h4⟩
  exact ⟨rfl, s', h3, h4⟩
end
end Go.Proofs.YtnhiodmigmmfgaaGreat
/- Lists that are handed in with marked places behind them, and looked at again: contracts. -/
namespace Go.Proofs.YtnhiodmigmmfgaaGreat
open Go.RowKit Go.Shelf
set_option linter.unusedVariables false

/-- What HandInts leaves: a row of the call's own with the numbers in front and the marks behind. -/
def Handed (W : World) (g n : Nat) (zs : Nat → Int) : Prop :=
  (∀ j, j < n → W.cell? ⟨g, j, none⟩ = some (.int .i64 (zs j))) ∧ ∀ j, j < 9 → W.cell? ⟨g, n + j, none⟩ = some (.int .i64 (-700 - (j : Int)))

def Row (W : World) (base g N : Nat) (xs : List Value) : Prop := W.ownsRow base 3 1 (.slice (some ⟨g, 0, none⟩) N N) N xs

theorem Row.at {W : World} {base g N : Nat} {xs : List Value} (h : Row W base g N xs) (j : Nat) (hj : j < N) : ∃ v, W.cell? ⟨g, j, none⟩ = some v ∧ W.frozen? ⟨g, j, none⟩ = false := by
  have e := World.ownsRow.cellAt h j (by omega)
  have l : xs.length = N := by have := h.1; omega
  have f := World.ownsRow.frozenAt h j
  exact ⟨xs[j]'(by omega), by rw [e]; simp, f⟩
theorem Row.put {W : World} {base g N : Nat} {xs : List Value} (h : Row W base g N xs) (j : Nat) (u : Value) : Row (W.setCell ⟨g, j, none⟩ u) base g N (xs.set j u) := (World.ownsRow.stored h j u).1
theorem Row.base {W : World} {base g N : Nat} {xs : List Value} (h : Row W base g N xs) : base ≤ g ∧ g < W.heap.size := by
  rcases h.2 with ⟨h', _⟩ | ⟨g', cap', cur, h', hb, hg, _⟩
  · simp at h'
  · simp only [Value.slice.injEq, Option.some.injEq, Addr.mk.injEq, and_true, true_and] at h'
    obtain ⟨rfl, _⟩ := h'
    exact ⟨hb, (Array.getElem?_eq_some_iff.1 hg).1⟩

theorem Row.cells {W : World} {base g N : Nat} {xs : List Value} (h : Row W base g N xs) (j : Nat) (hj : j < N) {v : Value} (e : xs[j]? = some v) : W.cell? ⟨g, j, none⟩ = some v := (World.ownsRow.cellAt h j (by omega)).trans e

theorem IReads.handed {W : World} {g : Nat} {zs : List Int} (h : Handed W g zs.length (fun j => zs.getD j 0)) (hg : g < W.heap.size) : IReads W (some ⟨g, 0, none⟩) zs := by
  refine .inr ⟨g, 0, rfl, hg, fun i x hx => ?_⟩
  have hl := (List.getElem?_eq_some_iff.1 hx).1
  have e := h.1 i hl
  simp only [List.getD_eq_getElem?_getD, hx] at e
  simpa using e
theorem Handed.chg {W X : World} {g n : Nat} {zs : Nat → Int} {F : Nat → Prop} (h : Handed W g n zs) (c : Chg F W X) (hF : ¬ F g) : Handed X g n zs := ⟨fun j hj => cell_chg c (h.1 j hj) hF, fun j hj => cell_chg c (h.2 j hj) hF⟩
end Go.Proofs.YtnhiodmigmmfgaaGreat
/- A book's lists of ints, of any lengths: what lies where, marked, grown. -/
namespace Go.Proofs.YtnhiodmigmmfgaaGreat
open Go.RowKit Go.Maps Go.Shelf

/-- append to a row of one's own: in its block, or in a new one and nothing that was there turns. -/
theorem wpList_append_two {P : Program} (w : World) {ops : Array Oper} {rest : List Oper} {o : Oper} {a : Act} {Q : Exit → Act → World → Prop} (hgd : o.guard = none) (s x : Operand) (t : TypeId)
    (ho : o.op = Op.call { callee := Callee.builtin Builtin.append, args := #[s, x], argTypes := #[t, t] })
    (e : TypeId) (i : TypeInfo) (z : Value) (size bytes : Nat) (ht : P.underlying t = some (.slice e)) (hi : P.info? e = some i) (hz : i.zero = some z)
    (hsize : i.size = size) (hby : i.bytes = bytes) (hzs : z.cells.size = size) (hsz : 0 < size)
    (v : Value) (n : Nat) (xs : List Value) (hs : a.eval s = v) (hown : w.ownsRow 0 e size v n xs)
    (ad : Addr) (m c : Nat) (news : List Value) (hx : a.eval x = .slice (some ad) m c) (hl : news.length = m * size) (hnews : ∀ j u, news[j]? = some u → w.cell? (ad.add j) = some u) (h1 : ∀ u ∈ news, u.oneCell' = true)
    (hm : 0 < m) (h63 : n + m ≤ maxLen) (hbytes : (n + m) * bytes ≤ 140737488355328)
    (h : ∀ v' w', w'.ownsRow 0 e size v' (n + m) (xs ++ news) → (w.grownBy w' v.ownBlock ∧ v'.ownBlock = v.ownBlock ∨ w.grownBy w' none ∧ ∀ b, v'.ownBlock = some b → w.heap.size ≤ b) → wpList P ops Q rest (a.put o.dst v') w') :
    wpList P ops Q (o :: rest) a w := by
  have lower : ∀ (w' : World) (v' : Value) (k : Nat) (ys : List Value), w'.ownsRow w.heap.size e size v' k ys → w'.ownsRow 0 e size v' k ys ∧ ∀ b, v'.ownBlock = some b → w.heap.size ≤ b := fun w' v' k ys hr => by
    refine ⟨⟨hr.1, ?_⟩, fun b hb => ?_⟩
    · rcases hr.2 with hr2 | ⟨g, cap, cur, q1, q2, q3⟩
      · exact .inl hr2
      · exact .inr ⟨g, cap, cur, q1, Nat.zero_le _, q3⟩
    · exact (hr.lt b hb).1
  rcases hown.2 with ⟨rfl, rfl⟩ | ⟨g, cap, cur, rfl, _⟩
  · have hxs : xs = [] := List.eq_nil_of_length_eq_zero (by have := hown.1; simpa using this)
    subst hxs
    refine wpList_append_grows w hgd s x t ho e i z size bytes ht hi hz hsize hby hzs hsz none 0 0 [] hs (fun _ => ⟨rfl, rfl⟩) (by simp) (fun b hb => by simp at hb) ad m c news hx hl hnews h1 (by omega) h63 hbytes ?_
    intro v' w' r1 r2
    obtain ⟨l1, l2⟩ := lower w' v' _ _ r1
    exact h v' w' l1 (.inr ⟨r2, l2⟩)
  · by_cases hroom : n + m ≤ cap
    · refine wpList_append_fits w hgd s x t ho 0 e i size ht hi hsize g n cap xs hs hown ad m c news hx hl hnews h1 hroom ?_
      intro w' r1 r2
      exact h _ w' r1 (.inl ⟨r2, rfl⟩)
    · refine wpList_append_grows w hgd s x t ho e i z size bytes ht hi hz hsize hby hzs hsz (some ⟨g, 0, none⟩) n cap xs hs (fun e => by simp at e) hown.1 (fun b hb j u hj => by cases hb; exact hown.cells (g := g) rfl j u hj) ad m c news hx hl hnews h1 (by omega) h63 hbytes ?_
      intro v' w' r1 r2
      obtain ⟨l1, l2⟩ := lower w' v' _ _ r1
      exact h v' w' l1 (.inr ⟨r2, l2⟩)

def mark (j : Nat) : Value := .int .i64 (-7 - (j : Int))
def LV (v : Nat → Value) (n : Nat) : List Value := (List.range n).map v
theorem LV_get (v : Nat → Value) (n j : Nat) (hj : j < n) : (LV v n)[j]? = some (v j) := by simp [LV, hj]
theorem LV_snoc (v : Nat → Value) (n : Nat) (x : Value) : LV (fun j => if j = n then x else v j) (n + 1) = LV v n ++ [x] := by
  unfold LV
  rw [List.range_succ, List.map_append]
  congr 1
  · apply List.map_congr_left
    intro j hj
    rw [List.mem_range] at hj
    rw [if_neg (by omega)]
  · simp
def cellV (W : World) (v : Value) (q : Nat) : Option Value := match v with
  | .slice (some a) _ _ => W.cell? ⟨a.block, q, none⟩
  | _ => none
theorem cellV_some {W : World} {g n c q : Nat} : cellV W (.slice (some ⟨g, 0, none⟩) n c) q = W.cell? ⟨g, q, none⟩ := rfl
theorem row_cellV {W : World} {v : Value} {n : Nat} {xs : List Value} {e : TypeId} (h : W.ownsRow 0 e 1 v n xs) (q : Nat) (hq : q < n) : cellV W v q = xs[q]? := by
  obtain ⟨g, c, rfl⟩ := slice_pos h (by omega)
  rw [cellV_some, World.ownsRow.cellAt h q (by omega)]
theorem cellV_kept {W X : World} {v : Value} {q : Nat} (h : ∀ b, v.ownBlock = some b → X.heap[b]? = W.heap[b]?) (hf : ∃ p n c, v = .slice p n c ∧ (∀ a, p = some a → a.off = 0 ∧ a.spot = none)) : cellV X v q = cellV W v q := by
  obtain ⟨p, n, c, rfl, hp⟩ := hf
  cases p with
  | none => rfl
  | some a =>
    obtain ⟨bl, off, spot⟩ := a
    obtain ⟨rfl, rfl⟩ := hp _ rfl
    exact World.cell?_of_block (h bl rfl)
theorem row_form {W : World} {v : Value} {n : Nat} {xs : List Value} {e : TypeId} {s : Nat} (h : W.ownsRow 0 e s v n xs) : ∃ p n c, v = .slice p n c ∧ (∀ a, p = some a → a.off = 0 ∧ a.spot = none) := by
  rcases h.2 with ⟨rfl, rfl⟩ | ⟨g, cap, cur, rfl, _⟩
  · exact ⟨_, _, _, rfl, fun a ha => by simp at ha⟩
  · exact ⟨_, _, _, rfl, fun a ha => by cases ha; exact ⟨rfl, rfl⟩⟩

/-- The book: its block, the list of lists. -/
structure BkB (W : World) (Bk : Nat) (ov : Value) (n : Nat) (v : Nat → Value) : Prop where
  blk : ∃ cs, W.heap[Bk]? = some (.cells cs 63 (0, 0)) ∧ cs[2]? = some ov
  outer : W.ownsRow 0 23 1 ov n (LV v n)
theorem BkB.cell {W : World} {Bk : Nat} {ov : Value} {n : Nat} {v : Nat → Value} (h : BkB W Bk ov n v) : W.cell? ⟨Bk, 2, none⟩ = some ov := by
  obtain ⟨cs, h1, h2⟩ := h.blk
  rw [cell_of h1, h2]
theorem BkB.kept {W X : World} {Bk : Nat} {ov : Value} {n : Nat} {v : Nat → Value} (h : BkB W Bk ov n v) (h1 : X.heap[Bk]? = W.heap[Bk]?) (h2 : ∀ b, ov.ownBlock = some b → X.heap[b]? = W.heap[b]?) : BkB X Bk ov n v := by
  obtain ⟨cs, q1, q2⟩ := h.blk
  exact ⟨⟨cs, h1.trans q1, q2⟩, row_kept h.outer h2⟩
theorem BkB.lt {W : World} {Bk : Nat} {ov : Value} {n : Nat} {v : Nat → Value} (h : BkB W Bk ov n v) : Bk < W.heap.size := by
  obtain ⟨cs, q1, _⟩ := h.blk
  exact lt_of q1
theorem BkB.at {W : World} {Bk go co : Nat} {n : Nat} {v : Nat → Value} (h : BkB W Bk (.slice (some ⟨go, 0, none⟩) n co) n v) (j : Nat) (hj : j < n) : W.cell? ⟨go, j, none⟩ = some (v j) := by
  have e := row_cellV h.outer j hj
  rw [cellV_some, LV_get v n j hj] at e
  exact e
theorem BkB.ne {W : World} {Bk : Nat} {ov : Value} {n : Nat} {v : Nat → Value} {x : Value} {k : Nat} {xs : List Value} (h : BkB W Bk ov n v) (hr : W.ownsRow 0 3 1 x k xs) : x.ownBlock ≠ some Bk ∧ ∀ b, ov.ownBlock = some b → x.ownBlock ≠ some b := by
  obtain ⟨cs, q1, _⟩ := h.blk
  exact ⟨block_apart hr q1 (by decide), fun b hb => rows_apart h.outer hr (by decide) b hb⟩

def Apart (n : Nat) (v : Nat → Value) : Prop := ∀ i j b, i < n → j < n → i ≠ j → (v i).ownBlock = some b → (v j).ownBlock ≠ some b
/-- The lists: of the list j the first t j bear its mark. -/
def RowsM (W : World) (n : Nat) (v : Nat → Value) (len t : Nat → Nat) : Prop := ∀ j, j < n → ∃ xs, W.ownsRow 0 3 1 (v j) (len j) xs ∧ ∀ q, q < t j → xs[q]? = some (mark j)
def Fv (n : Nat) (v : Nat → Value) (b : Nat) : Prop := ∃ j, j < n ∧ (v j).ownBlock = some b
theorem RowsM.weak {W : World} {n : Nat} {v : Nat → Value} {len t t' : Nat → Nat} (h : RowsM W n v len t) (ht : ∀ j, j < n → t' j ≤ t j) : RowsM W n v len t' := fun j hj => by
  obtain ⟨xs, h1, h2⟩ := h j hj
  exact ⟨xs, h1, fun q hq => h2 q (Nat.lt_of_lt_of_le hq (ht j hj))⟩
theorem RowsM.put {W : World} {n g c i k : Nat} {v : Nat → Value} {len t t' : Nat → Nat} (h : RowsM W n v len t) (ha : Apart n v) (hi : i < n) (hk : k < len i) (hg : v i = .slice (some ⟨g, 0, none⟩) (len i) c) (ht : ∀ j q, j < n → q < t' j → q < t j ∨ j = i ∧ q = k) : RowsM (W.setCell ⟨g, k, none⟩ (mark i)) n v len t' := fun j hj => by
  obtain ⟨xs, h1, h2⟩ := h j hj
  by_cases e : j = i
  · subst e
    rw [hg] at h1
    refine ⟨xs.set k (mark j), by rw [hg]; exact (World.ownsRow.stored h1 k (mark j)).1, fun q hq => ?_⟩
    have hl : xs.length = len j := by have := h1.1; omega
    rw [List.getElem?_set]
    by_cases e2 : k = q
    · rw [if_pos e2, if_pos (by omega)]
    · rw [if_neg e2]
      rcases ht j q hj hq with h3 | ⟨_, h3⟩
      · exact h2 q h3
      · exact absurd h3.symm e2
  · have hb : (v i).ownBlock = some g := by rw [hg]; rfl
    refine ⟨xs, row_kept h1 fun b hb2 => Below.heap_setCell W ⟨g, k, none⟩ (mark i) b (fun e3 => ?_), fun q hq => ?_⟩
    · exact ha i j b hi hj (fun e4 => e e4.symm) (by rw [hb]; exact congrArg some e3.symm) hb2
    · rcases ht j q hj hq with h3 | ⟨h3, _⟩
      · exact h2 q h3
      · exact absurd h3 e
theorem all_marks {xs : List Value} {n : Nat} {x : Value} (hl : xs.length = n) (h : ∀ q, q < n → xs[q]? = some x) : xs = List.replicate n x := by
  apply List.ext_getElem?
  intro q
  by_cases c : q < n
  · rw [h q c, List.getElem?_replicate, if_pos c]
  · rw [List.getElem?_eq_none (by omega), List.getElem?_eq_none (by simp; omega)]

/-- While a list is grown. -/
structure G2 (wi wr : World) (vi : Value) (len i k : Nat) (gv : Value) : Prop where
  row : wr.ownsRow 0 3 1 gv (len + k) (List.replicate (len + k) (mark i))
  rvi : ∀ q, q < len → cellV wr vi q = some (mark i)
  blk : gv.ownBlock = vi.ownBlock ∨ ∀ b, gv.ownBlock = some b → wi.heap.size ≤ b
  chg : Chg (fun b => vi.ownBlock = some b) wi wr
  form : ∃ p n c, vi = .slice p n c ∧ (∀ a, p = some a → a.off = 0 ∧ a.spot = none)
  vlt : ∀ b, vi.ownBlock = some b → b < wi.heap.size
theorem G2.more {wi wr w2 : World} {vi gv v' : Value} {len i k : Nat} {o : Obj} (h : G2 wi wr vi len i k gv) (hr : w2.ownsRow 0 3 1 v' (len + k + 1) (List.replicate (len + k) (mark i) ++ [mark i]))
    (hg : (wr.alloc o).grownBy w2 gv.ownBlock ∧ v'.ownBlock = gv.ownBlock ∨ (wr.alloc o).grownBy w2 none ∧ ∀ b, v'.ownBlock = some b → (wr.alloc o).heap.size ≤ b) : G2 wi w2 vi len i (k + 1) v' := by
  have hrow : w2.ownsRow 0 3 1 v' (len + (k + 1)) (List.replicate (len + (k + 1)) (mark i)) := by
    have e : List.replicate (len + (k + 1)) (mark i) = List.replicate (len + k) (mark i) ++ [mark i] := by
      rw [show len + (k + 1) = (len + k) + 1 by omega]
      exact List.replicate_succ' ..
    rw [e]
    exact hr
  have hs := h.chg.size
  have c1 : Chg (fun b => vi.ownBlock = some b) wi (wr.alloc o) := h.chg.alloc o
  rcases hg with ⟨g1, g2⟩ | ⟨g1, g2⟩
  · refine ⟨hrow, fun q hq => ?_, ?_, c1.grown g1 (fun b hb hlt => ?_), h.form, h.vlt⟩
    · by_cases e : gv.ownBlock = vi.ownBlock
      · obtain ⟨b, cb, rfl⟩ := slice_pos hrow (by omega)
        have hb : vi.ownBlock = some b := by rw [← e, ← g2]; rfl
        obtain ⟨p, n, c, rfl, hp⟩ := h.form
        cases p with
        | none => simp [Value.ownBlock] at hb
        | some a =>
          obtain ⟨bl, off, spot⟩ := a
          obtain ⟨rfl, rfl⟩ := hp _ rfl
          simp [Value.ownBlock] at hb
          subst hb
          have e2 := row_cellV hrow q (by omega)
          rw [cellV_some, List.getElem?_replicate, if_pos (by omega)] at e2
          exact e2
      · rw [cellV_kept (W := wr) (fun b hb => ?_) h.form]
        · exact h.rvi q hq
        · have hlt := h.vlt b hb
          refine (g1.block b (by simp; omega) (fun e3 => ?_)).trans (Below.heap_alloc _ _ _ (by omega))
          rcases h.blk with e4 | e4
          · exact e e4
          · have := e4 b e3.symm
            omega
    · rcases h.blk with e4 | e4
      · exact .inl (g2.trans e4)
      · exact .inr (by rw [g2]; exact e4)
    · rcases h.blk with e4 | e4
      · rw [← e4]; exact hb
      · have := e4 b hb
        omega
  · refine ⟨hrow, fun q hq => ?_, .inr fun b hb => ?_, c1.grown g1 (fun b hb => by simp at hb), h.form, h.vlt⟩
    · rw [cellV_kept (W := wr) (fun b hb => ?_) h.form]
      · exact h.rvi q hq
      · have hlt := h.vlt b hb
        exact (g1.block b (by simp; omega) (by simp)).trans (Below.heap_alloc _ _ _ (by omega))
    · have := g2 b hb
      simp at this
      omega
/-- So many lists are grown. -/
structure B2 (wa wr : World) (n : Nat) (v : Nat → Value) (len : Nat → Nat) (i : Nat) (gs : Nat → Value) (av : Value) : Prop where
  rows : ∀ j, i ≤ j → j < n → wr.ownsRow 0 3 1 (v j) (len j) (List.replicate (len j) (mark j))
  rv : ∀ j, j < n → ∀ q, q < len j → cellV wr (v j) q = some (mark j)
  gf : ∀ j, j < i → ∃ h d, gs j = .slice (some ⟨h, 0, none⟩) (len j + 20) d ∧ h < wr.heap.size ∧ (∃ cur, wr.heap[h]? = some (.cells cur 3 (0, 0))) ∧ (∀ q, q < len j + 20 → wr.cell? ⟨h, q, none⟩ = some (mark j)) ∧ ∀ j', i ≤ j' → j' < n → (v j').ownBlock ≠ some h
  all : wr.ownsRow 0 23 1 av i (LV gs i)
  alln : ∀ b, av.ownBlock = some b → wa.heap.size ≤ b
  chg : Chg (Fv n v) wa wr
structure BV (wa : World) (n : Nat) (v : Nat → Value) : Prop where
  apart : Apart n v
  lt : ∀ j b, j < n → (v j).ownBlock = some b → b < wa.heap.size
  form : ∀ j, j < n → ∃ p n c, v j = .slice p n c ∧ (∀ a, p = some a → a.off = 0 ∧ a.spot = none)
theorem B2.next {wa wi wr w2 : World} {n i : Nat} {v : Nat → Value} {len : Nat → Nat} {gs : Nat → Value} {av av' gv : Value} {o : Obj} (hv : BV wa n v) (h : B2 wa wi n v len i gs av) (hi : i < n) (hg : G2 wi wr (v i) (len i) i 20 gv)
    (hr : w2.ownsRow 0 23 1 av' (i + 1) (LV gs i ++ [gv])) (hgr : (wr.alloc o).grownBy w2 av.ownBlock) (hw : av'.ownBlock = av.ownBlock ∨ av'.ownBlock = some (wr.alloc o).heap.size) : B2 wa w2 n v len (i + 1) (fun j => if j = i then gv else gs j) av' := by
  have s1 := h.chg.size
  have s2 := hg.chg.size
  have c2 : Chg (fun b => av.ownBlock = some b) wr w2 := ((Chg.refl (fun b => av.ownBlock = some b) wr).alloc o).grown hgr (fun k e _ => e)
  have s3 := c2.size
  have away : ∀ b, b < wi.heap.size → (v i).ownBlock ≠ some b → av.ownBlock ≠ some b → w2.heap[b]? = wi.heap[b]? := fun b hb h1 h2 => (c2.block b (by omega) h2).trans (hg.chg.block b hb h1)
  have vaway : ∀ j, j < n → j ≠ i → ∀ b, (v j).ownBlock = some b → w2.heap[b]? = wi.heap[b]? := fun j hj hne b hb => by
    have hlt := hv.lt j b hj hb
    exact away b (by omega) (hv.apart j i b hj hi hne hb) (fun e => by have := h.alln b e; omega)
  obtain ⟨hb, cb, hgv⟩ := slice_pos hg.row (by omega)
  obtain ⟨cur, hcur⟩ := row_block hg.row hb (by rw [hgv]; rfl)
  have hA := h.all
  have hAr : wr.ownsRow 0 23 1 av i (LV gs i) := row_kept hA fun b hb2 => hg.chg.block b (row_lt hA b hb2) (fun e => by have := hv.lt i b hi e; have := h.alln b hb2; omega)
  have hne : av.ownBlock ≠ some hb := block_apart hAr hcur (by decide)
  have hkeep : w2.heap[hb]? = wr.heap[hb]? := c2.block hb (lt_of hcur) hne
  refine ⟨fun j h1 h2 => ?_, fun j hj q hq => ?_, fun j hj => ?_, ?_, fun b hb2 => ?_, ?_⟩
  · exact row_kept (h.rows j (by omega) h2) fun b hb2 => vaway j h2 (by omega) b hb2
  · by_cases e : j = i
    · subst e
      rw [cellV_kept (W := wr) (fun b hb2 => c2.block b (by have := hv.lt j b hj hb2; omega) (fun e => by have := hv.lt j b hj hb2; have := h.alln b e; omega)) (hv.form j hj)]
      exact hg.rvi q hq
    · rw [cellV_kept (W := wi) (fun b hb2 => vaway j hj e b hb2) (hv.form j hj)]
      exact h.rv j hj q hq
  · by_cases e : j = i
    · subst e
      rw [if_pos rfl]
      refine ⟨hb, cb, hgv, by have := lt_of hcur; omega, ⟨cur, hkeep.trans hcur⟩, fun q hq => ?_, fun j' h1 h2 e2 => ?_⟩
      · have e3 := row_cellV hg.row q hq
        rw [hgv, cellV_some, List.getElem?_replicate, if_pos hq] at e3
        exact (World.cell?_of_block (w := wr) hkeep).trans e3
      · rcases hg.blk with e4 | e4
        · exact hv.apart j j' hb hi h2 (by omega) (by rw [← e4, hgv]; rfl) e2
        · have := e4 hb (by rw [hgv]; rfl)
          have := hv.lt j' hb h2 e2
          omega
    · rw [if_neg e]
      obtain ⟨x, d, q1, q2, ⟨cx, q3⟩, q4, q5⟩ := h.gf j (by omega)
      have hx : w2.heap[x]? = wi.heap[x]? := away x q2 (q5 i (Nat.le_refl _) hi) (block_apart hA q3 (by decide))
      exact ⟨x, d, q1, by omega, ⟨cx, hx.trans q3⟩, fun q hq => (World.cell?_of_block (w := wi) hx).trans (q4 q hq), fun j' h1 h2 => q5 j' (by omega) h2⟩
  · rw [LV_snoc]
    exact hr
  · rcases hw with e | e
    · rw [e] at hb2
      exact h.alln b hb2
    · rw [e] at hb2
      simp at hb2
      omega
  · exact (h.chg.trans hg.chg (H := Fv n v) (fun _ _ x => x) (fun b _ x => ⟨i, hi, x⟩)).trans c2 (fun _ _ x => x) (fun b hb2 x => by have := h.alln b x; omega)
end Go.Proofs.YtnhiodmigmmfgaaGreat
