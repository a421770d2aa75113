/- Two Loads, a thread each: what their steps do. -/
import Derived.Test.YtnhiodmigmmfgaaGreatP11YI1
import Derived.Test.YtnhiodmigmmfgaaGreatP4SNew
import Derived.Test.YtnhiodmigmmfgaaGreatP17PF
import Derived.Test.YtnhiodmigmmfgaaGreatP13YD
import Derived.Test.YtnhiodmigmmfgaaGreatP12Yu
namespace Go.Proofs.YtnhiodmigmmfgaaGreat
open Go.RowKit Go.Shelf

def bN (d : Bool) : Nat := if d then 1 else 0
/-- A memory, two views, two Loads. -/
structure LSt (X : World) (F : Nat → Prop) (m b v0 v1 p0 p1 : Nat) (l : List Acc) (d0 d1 : Bool) (x0 x1 : Nat) : Prop where
  bank : Bank X F b 128 1 [] l
  mem : IsMem X m b
  w0 : IsView X v0 b 0 (bN d0)
  w1 : IsView X v1 b 1 (bN d1)
  q0 : IsLoad X p0 5 x0 d0
  q1 : IsLoad X p1 6 x1 d1
  nm : ¬ F m
  n0 : ¬ F v0
  n1 : ¬ F v1
  k0 : ¬ F p0
  k1 : ¬ F p1
  mv : m ≠ v0 ∧ m ≠ v1 ∧ m ≠ p0 ∧ m ≠ p1
  vv : v0 ≠ v1 ∧ v0 ≠ p0 ∧ v0 ≠ p1 ∧ v1 ≠ p0 ∧ v1 ≠ p1 ∧ p0 ≠ p1
def inK (F : Nat → Prop) (m v0 v1 p0 p1 : Nat) (k : Nat) : Prop := F k ∨ k = m ∨ k = v0 ∨ k = v1 ∨ k = p0 ∨ k = p1
def LS (m b v0 v1 p0 p1 : Nat) (n : Nat) (d0 d1 : Bool) (X : World) (K : Nat → Prop) : Prop := ∃ F l x0 x1, LSt X F m b v0 v1 p0 p1 l d0 d1 x0 x1 ∧ l.length = n ∧ K = inK F m v0 v1 p0 p1

theorem LS.keep {m b v0 v1 p0 p1 n : Nat} {d0 d1 : Bool} {X Y : World} {K : Nat → Prop} (h : LS m b v0 v1 p0 p1 n d0 d1 X K) (hs : X.heap.size ≤ Y.heap.size) (hk : ∀ k, K k → Y.heap[k]? = X.heap[k]?) : LS m b v0 v1 p0 p1 n d0 d1 Y K := by
  obtain ⟨F, l, x0, x1, h, hl, rfl⟩ := h
  exact ⟨F, l, x0, x1, { h with bank := h.bank.kept hs (fun k e => hk k (.inl e)), mem := (hk m (.inr (.inl rfl))).trans h.mem, w0 := (hk v0 (.inr (.inr (.inl rfl)))).trans h.w0, w1 := (hk v1 (.inr (.inr (.inr (.inl rfl))))).trans h.w1, q0 := (hk p0 (.inr (.inr (.inr (.inr (.inl rfl)))))).trans h.q0, q1 := (hk p1 (.inr (.inr (.inr (.inr (.inr rfl)))))).trans h.q1 }, hl, rfl⟩
theorem LS.lt {m b v0 v1 p0 p1 n : Nat} {d0 d1 : Bool} {X : World} {K : Nat → Prop} (h : LS m b v0 v1 p0 p1 n d0 d1 X K) (k : Nat) (hk : K k) : k < X.heap.size := by
  obtain ⟨F, l, x0, x1, h, hl, rfl⟩ := h
  obtain ⟨_, _, B⟩ := h.bank
  rcases hk with e | rfl | rfl | rfl | rfl | rfl
  · exact B.lt k e
  · exact h.mem.lt
  · exact h.w0.lt
  · exact h.w1.lt
  · exact lt_of h.q0
  · exact lt_of h.q1
theorem LS.mem {m b v0 v1 p0 p1 n : Nat} {d0 d1 : Bool} {X : World} {K : Nat → Prop} (h : LS m b v0 v1 p0 p1 n d0 d1 X K) : ∃ b F most next cs l, IsMem X m b ∧ Bank X F b most next cs l ∧ l.length = n ∧ (∀ k, F k → K k) ∧ K m := by
  obtain ⟨F, l, x0, x1, h, hl, rfl⟩ := h
  exact ⟨b, F, 128, 1, [], l, h.mem, h.bank, hl, fun k e => .inl e, .inr (.inl rfl)⟩

set_option maxRecDepth 100000 in
theorem ls_step1 {m b v0 v1 p0 p1 n : Nat} {d0 : Bool} (X : World) (K : Nat → Prop) (h : LS m b v0 v1 p0 p1 n d0 false X K) (hn : n < 1099511627776) :
    Calls Tryz.prog 35 #[.iface 73 (.pointer (some ⟨p1, 0, none⟩)), .pointer (some ⟨v1, 0, none⟩)] X fun e X' => ∃ d K', e = .returned (.bool d) ∧ (d = true ∧ LS m b v0 v1 p0 p1 (n + 1) d0 true X' K') ∧ Goes X X' K K' := by
  obtain ⟨F, l, x0, x1, h, hl, rfl⟩ := h
  obtain ⟨mv0, mv1, mp0, mp1⟩ := h.mv
  obtain ⟨a1, a2, a3, a4, a5, a6⟩ := h.vv
  have cA : Chg (fun _ => False) X (X.alloc (.cells #[.bool false] 4)) := (Chg.refl _ X).alloc _
  have hsz : (X.alloc (.cells #[.bool false] 4)).heap.size = X.heap.size + 1 := by simp
  obtain ⟨_, _, B0⟩ := h.bank
  have st := s_stepOf_load ⟨p1, 0, none⟩ (.pointer (some ⟨v1, 0, none⟩)) (fun d X1 => d = true ∧ ∃ F' vs, Bank X1 F' b 128 1 [] (l ++ [⟨1, 1, 6, 0, 0, vs, [], cellN [] 6, false⟩]) ∧ IsView X1 v1 b 1 1 ∧ IsLoad X1 p1 6 (cellN [] 6) true ∧ ¬ F' p1 ∧ ¬ F' v1 ∧ Chg (fun k => (F k ∨ k = v1) ∨ k = p1) (X.alloc (.cells #[.bool false] 4)) X1 ∧ ∀ k, F' k → F k ∨ X.heap.size + 1 ≤ k) X ?_
  · refine st.mono ?_
    rintro e X' ⟨d, X1, rfl, ⟨rfl, F', vs, B1, V1, L1, nf1, nf2, C1, N1⟩, hcell, rfl⟩
    have c2 : Chg (fun k => k = X.heap.size) X1 (X1.setCell ⟨X.heap.size, 0, none⟩ (.bool true)) := (Chg.refl (fun k => k = X.heap.size) X1).setCell (p := ⟨X.heap.size, 0, none⟩) (fun _ => rfl) _
    have cX : Chg (fun k => (F k ∨ k = v1) ∨ k = p1) X (X1.setCell ⟨X.heap.size, 0, none⟩ (.bool true)) := (cA.trans C1 (fun _ _ x => x.elim) (fun _ _ x => x)).trans c2 (fun _ _ x => x) (fun i hi x => by omega)
    have ne : ∀ z, z < X.heap.size → z ≠ X.heap.size := fun z hz => by omega
    have nF' : ∀ z, z < X.heap.size → ¬ F z → ¬ F' z := fun z hz hf e => (N1 z e).elim hf (fun e => by omega)
    have nFx : ¬ F' X.heap.size := fun e => (N1 _ e).elim (fun e => by have := B0.lt _ e; omega) (fun e => by omega)
    refine ⟨true, _, rfl, ⟨rfl, F', _, x0, _, ⟨B1.chg c2 (fun k e e2 => nFx (by rw [← e2]; exact e)), h.mem.chg cX (fun e => by rcases e with (e | e) | e; exact h.nm e; exact mv1 e; exact mp1 e), h.w0.chg cX (fun e => by rcases e with (e | e) | e; exact h.n0 e; exact a1 e; exact a3 e), V1.chg c2 (ne _ h.w1.lt), h.q0.chg cX (fun e => by rcases e with (e | e) | e; exact h.k0 e; exact a4 e.symm; exact a6 e), L1.chg c2 (ne _ (lt_of h.q1)), nF' _ h.mem.lt h.nm, nF' _ h.w0.lt h.n0, nf2, nF' _ (lt_of h.q0) h.k0, nf1, h.mv, h.vv⟩, by simp [hl], rfl⟩, ⟨cX.mono (fun k _ e => by rcases e with (e | e) | e; exact .inl e; exact .inr (.inr (.inr (.inl e))); exact .inr (.inr (.inr (.inr (.inr e))))), fun k e => ?_⟩⟩
    rcases e with e | e
    · exact (N1 k e).elim (fun e => .inl (.inl e)) (fun e => .inr (by omega))
    · exact .inl (.inr e)
  · refine (load_step p1 6 x1 v1 b 128 1 0 1 F [] l _ (h.q1.chg cA (fun h => h)) (h.w1.chg cA (fun h => h)) (h.bank.chg cA (fun _ _ h => h)) h.n1 h.k1 (fun e => a5 e.symm) (by omega) (by omega) (by omega)).mono ?_
    rintro e X1 ⟨rfl, F', vs, B1, V1, L1, nf1, nf2, C1, N1⟩
    refine ⟨true, rfl, ⟨rfl, F', vs, B1, V1, L1, nf1, nf2, C1, fun k e => by have := N1 k e; rw [hsz] at this; exact this⟩, ?_⟩
    exact (C1.block _ (by simp) (fun e => by
      rcases e with (e | e) | e
      · have := B0.lt _ e
        omega
      · have := h.w1.lt
        omega
      · have := lt_of h.q1
        omega)).trans (heap_alloc_new _ _)
set_option maxRecDepth 100000 in
theorem ls_step0 {m b v0 v1 p0 p1 n : Nat} {d1 : Bool} (X : World) (K : Nat → Prop) (h : LS m b v0 v1 p0 p1 n false d1 X K) (hn : n < 1099511627776) :
    Calls Tryz.prog 35 #[.iface 73 (.pointer (some ⟨p0, 0, none⟩)), .pointer (some ⟨v0, 0, none⟩)] X fun e X' => ∃ d K', e = .returned (.bool d) ∧ (d = true ∧ LS m b v0 v1 p0 p1 (n + 1) true d1 X' K') ∧ Goes X X' K K' := by
  obtain ⟨F, l, x0, x1, h, hl, rfl⟩ := h
  obtain ⟨mv0, mv1, mp0, mp1⟩ := h.mv
  obtain ⟨a1, a2, a3, a4, a5, a6⟩ := h.vv
  have cA : Chg (fun _ => False) X (X.alloc (.cells #[.bool false] 4)) := (Chg.refl _ X).alloc _
  have hsz : (X.alloc (.cells #[.bool false] 4)).heap.size = X.heap.size + 1 := by simp
  obtain ⟨_, _, B0⟩ := h.bank
  have st := s_stepOf_load ⟨p0, 0, none⟩ (.pointer (some ⟨v0, 0, none⟩)) (fun d X1 => d = true ∧ ∃ F' vs, Bank X1 F' b 128 1 [] (l ++ [⟨0, 1, 5, 0, 0, vs, [], cellN [] 5, false⟩]) ∧ IsView X1 v0 b 0 1 ∧ IsLoad X1 p0 5 (cellN [] 5) true ∧ ¬ F' p0 ∧ ¬ F' v0 ∧ Chg (fun k => (F k ∨ k = v0) ∨ k = p0) (X.alloc (.cells #[.bool false] 4)) X1 ∧ ∀ k, F' k → F k ∨ X.heap.size + 1 ≤ k) X ?_
  · refine st.mono ?_
    rintro e X' ⟨d, X1, rfl, ⟨rfl, F', vs, B1, V1, L1, nf1, nf2, C1, N1⟩, hcell, rfl⟩
    have c2 : Chg (fun k => k = X.heap.size) X1 (X1.setCell ⟨X.heap.size, 0, none⟩ (.bool true)) := (Chg.refl (fun k => k = X.heap.size) X1).setCell (p := ⟨X.heap.size, 0, none⟩) (fun _ => rfl) _
    have cX : Chg (fun k => (F k ∨ k = v0) ∨ k = p0) X (X1.setCell ⟨X.heap.size, 0, none⟩ (.bool true)) := (cA.trans C1 (fun _ _ x => x.elim) (fun _ _ x => x)).trans c2 (fun _ _ x => x) (fun i hi x => by omega)
    have ne : ∀ z, z < X.heap.size → z ≠ X.heap.size := fun z hz => by omega
    have nF' : ∀ z, z < X.heap.size → ¬ F z → ¬ F' z := fun z hz hf e => (N1 z e).elim hf (fun e => by omega)
    have nFx : ¬ F' X.heap.size := fun e => (N1 _ e).elim (fun e => by have := B0.lt _ e; omega) (fun e => by omega)
    refine ⟨true, _, rfl, ⟨rfl, F', _, _, x1, ⟨B1.chg c2 (fun k e e2 => nFx (by rw [← e2]; exact e)), h.mem.chg cX (fun e => by rcases e with (e | e) | e; exact h.nm e; exact mv0 e; exact mp0 e), V1.chg c2 (ne _ h.w0.lt), h.w1.chg cX (fun e => by rcases e with (e | e) | e; exact h.n1 e; exact a1 e.symm; exact a4 e), L1.chg c2 (ne _ (lt_of h.q0)), h.q1.chg cX (fun e => by rcases e with (e | e) | e; exact h.k1 e; exact a3 e.symm; exact a6 e.symm), nF' _ h.mem.lt h.nm, nf2, nF' _ h.w1.lt h.n1, nf1, nF' _ (lt_of h.q1) h.k1, h.mv, h.vv⟩, by simp [hl], rfl⟩, ⟨cX.mono (fun k _ e => by rcases e with (e | e) | e; exact .inl e; exact .inr (.inr (.inl e)); exact .inr (.inr (.inr (.inr (.inl e))))), fun k e => ?_⟩⟩
    rcases e with e | e
    · exact (N1 k e).elim (fun e => .inl (.inl e)) (fun e => .inr (by omega))
    · exact .inl (.inr e)
  · refine (load_step p0 5 x0 v0 b 128 1 0 0 F [] l _ (h.q0.chg cA (fun h => h)) (h.w0.chg cA (fun h => h)) (h.bank.chg cA (fun _ _ h => h)) h.n0 h.k0 (fun e => a2 e.symm) (by omega) (by omega) (by omega)).mono ?_
    rintro e X1 ⟨rfl, F', vs, B1, V1, L1, nf1, nf2, C1, N1⟩
    refine ⟨true, rfl, ⟨rfl, F', vs, B1, V1, L1, nf1, nf2, C1, fun k e => by have := N1 k e; rw [hsz] at this; exact this⟩, ?_⟩
    exact (C1.block _ (by simp) (fun e => by
      rcases e with (e | e) | e
      · have := B0.lt _ e
        omega
      · have := h.w0.lt
        omega
      · have := lt_of h.q0
        omega)).trans (heap_alloc_new _ _)
end Go.Proofs.YtnhiodmigmmfgaaGreat
/- What must be whatever is asked (package step). -/
namespace Go.Proofs.YtnhiodmigmmfgaaGreat
open Go.RowKit Go.Shelf

theorem row_of {W : World} {g n s : Nat} {cs : Array Value} {e : TypeId} (h : W.heap[g]? = some (.cells cs e (0, 0))) (hs : cs.size = n * s) (hn : n ≤ 1099511627776) : W.ownsRow 0 e s (.slice (some ⟨g, 0, none⟩) n n) n cs.toList :=
  ⟨by simpa using hs, .inr ⟨g, n, cs, rfl, Nat.zero_le _, h, Nat.le_refl _, by unfold maxLen; omega, hs, by rw [List.take_of_length_le]; simp; omega⟩⟩

def loadI (p : Nat) : Value := .iface 73 (.pointer (some ⟨p, 0, none⟩))
def twoL (p0 s0 p1 s1 : Nat) : List (Value × List Value) := [(.slice (some ⟨s0, 0, none⟩) 1 1, [loadI p0]), (.slice (some ⟨s1, 0, none⟩) 1 1, [loadI p1])]
theorem twoL_ok (p0 s0 p1 s1 : Nat) : tooLongB (twoL p0 s0 p1 s1) = false := by simp [tooLongB, twoL]

theorem two_of {α : Type} {l : List α} (h : l.length = 2) : ∃ a b, l = [a, b] := by
  match l, h with
  | [a, b], _ => exact ⟨a, b, rfl⟩

/-- A runner of two Loads that has had no pick. -/
theorem live_start {W6 W7 : World} {G : Nat → Prop} {r m b p0 s0 p1 s1 : Nat} {tv : Value} {ths : List Thr} {vbs : List Nat} (hm : IsMem W6 m b) (hb : Bank W6 (fun k => k = b) b 128 1 [] []) (q0 : IsLoad W6 p0 5 0 false) (q1 : IsLoad W6 p1 6 0 false) (h : Made W6 W7 G r m b tv (twoL p0 s0 p1 s1) ths vbs 2) (hl : ths.length = 2) (hd : m ≠ b ∧ p0 ≠ b ∧ p1 ≠ b ∧ m ≠ p0 ∧ m ≠ p1 ∧ p0 ≠ p1) :
    ∃ v0 v1 c0 c1 g c, vbs = [v0, v1] ∧ ths = [⟨c0, [loadI p0], 0, false⟩, ⟨c1, [loadI p1], 0, false⟩] ∧ tv = .slice (some ⟨g, 0, none⟩) 2 c ∧ LS m b v0 v1 p0 p1 0 false false W7 (inK (fun k => k = b) m v0 v1 p0 p1) ∧ (∀ k, G k → ¬ inK (fun k => k = b) m v0 v1 p0 p1 k) := by
  obtain ⟨v0, v1, rfl⟩ := two_of h.vl
  obtain ⟨t0, t1, rfl⟩ := two_of hl
  obtain ⟨g, c, htv⟩ := slice_pos h.run.tr (by simp)
  obtain ⟨y0, hy0, e0, e1, e2⟩ := h.thr 0 t0 rfl
  obtain ⟨y1, hy1, f0, f1, f2⟩ := h.thr 1 t1 rfl
  simp [twoL] at hy0 hy1
  subst hy0 hy1
  obtain ⟨a0, a1, a2⟩ := h.views 0 v0 rfl
  obtain ⟨b0, b1, b2⟩ := h.views 1 v1 rfl
  have hvv := h.apart 0 1 v0 v1 (by omega) rfl rfl
  have lm := hm.lt
  have l0 := lt_of q0
  have l1 := lt_of q1
  have lb : b < W6.heap.size := by obtain ⟨_, _, B⟩ := hb; exact B.lt b rfl
  refine ⟨v0, v1, t0.cv, t1.cv, g, c, rfl, ?_, by simpa using htv, ⟨fun k => k = b, [], 0, 0, ⟨hb.chg h.chg (fun _ _ h => h), hm.chg h.chg (fun h => h), a0, b0, q0.chg h.chg (fun h => h), q1.chg h.chg (fun h => h), by omega, by omega, by omega, by omega, by omega, by omega, by omega⟩, rfl, rfl⟩, fun k hk e => ?_⟩
  · cases t0
    cases t1
    simp_all
  · have hW := h.inG k hk
    rcases e with e | e | e | e | e | e
    · omega
    · omega
    · exact a2 (by rw [← e]; exact hk)
    · exact b2 (by rw [← e]; exact hk)
    · omega
    · omega

theorem live_lists (W1 W6 : World) (hW : W6 = (((((W1.alloc (.cells #[.int .u64 5, .int .u64 0, .bool false] 139)).alloc (.cells #[.iface 73 (.pointer (some ⟨W1.heap.size, 0, none⟩))] 91)).alloc (.cells #[.int .u64 6, .int .u64 0, .bool false] 139)).alloc (.cells #[.iface 73 (.pointer (some ⟨W1.heap.size + 1 + 1, 0, none⟩))] 91)).alloc (.cells #[.slice (some ⟨W1.heap.size + 1, 0, none⟩) 1 1, .slice (some ⟨W1.heap.size + 1 + 1 + 1, 0, none⟩) 1 1] 76))) :
    Chg (fun _ => False) W1 W6 ∧ IsLoad W6 W1.heap.size 5 0 false ∧ IsLoad W6 (W1.heap.size + 1 + 1) 6 0 false ∧ Lists W6 (.slice (some ⟨W1.heap.size + 1 + 1 + 1 + 1, 0, none⟩) 2 2) (twoL W1.heap.size (W1.heap.size + 1) (W1.heap.size + 1 + 1) (W1.heap.size + 1 + 1 + 1)) := by
  obtain ⟨a1, ha1⟩ : ∃ a1, a1 = W1.alloc (.cells #[.int .u64 5, .int .u64 0, .bool false] 139) := ⟨_, rfl⟩
  obtain ⟨a2, ha2⟩ : ∃ a2, a2 = a1.alloc (.cells #[.iface 73 (.pointer (some ⟨W1.heap.size, 0, none⟩))] 91) := ⟨_, rfl⟩
  obtain ⟨a3, ha3⟩ : ∃ a3, a3 = a2.alloc (.cells #[.int .u64 6, .int .u64 0, .bool false] 139) := ⟨_, rfl⟩
  obtain ⟨a4, ha4⟩ : ∃ a4, a4 = a3.alloc (.cells #[.iface 73 (.pointer (some ⟨W1.heap.size + 1 + 1, 0, none⟩))] 91) := ⟨_, rfl⟩
  rw [← ha1, ← ha2, ← ha3, ← ha4] at hW
  have z1 : a1.heap.size = W1.heap.size + 1 := by rw [ha1]; simp
  have z2 : a2.heap.size = W1.heap.size + 1 + 1 := by rw [ha2]; simp [z1]
  have z3 : a3.heap.size = W1.heap.size + 1 + 1 + 1 := by rw [ha3]; simp [z2]
  have z4 : a4.heap.size = W1.heap.size + 1 + 1 + 1 + 1 := by rw [ha4]; simp [z3]
  have g1 : a1.heap[W1.heap.size]? = some (.cells #[.int .u64 5, .int .u64 0, .bool false] 139 (0, 0)) := by rw [ha1]; exact heap_alloc_new _ _
  have g2 : a2.heap[W1.heap.size + 1]? = some (.cells #[.iface 73 (.pointer (some ⟨W1.heap.size, 0, none⟩))] 91 (0, 0)) := by rw [ha2, ← z1]; exact heap_alloc_new _ _
  have g3 : a3.heap[W1.heap.size + 1 + 1]? = some (.cells #[.int .u64 6, .int .u64 0, .bool false] 139 (0, 0)) := by rw [ha3, ← z2]; exact heap_alloc_new _ _
  have g4 : a4.heap[W1.heap.size + 1 + 1 + 1]? = some (.cells #[.iface 73 (.pointer (some ⟨W1.heap.size + 1 + 1, 0, none⟩))] 91 (0, 0)) := by rw [ha4, ← z3]; exact heap_alloc_new _ _
  have g5 : W6.heap[W1.heap.size + 1 + 1 + 1 + 1]? = some (.cells #[.slice (some ⟨W1.heap.size + 1, 0, none⟩) 1 1, .slice (some ⟨W1.heap.size + 1 + 1 + 1, 0, none⟩) 1 1] 76 (0, 0)) := by rw [hW, ← z4]; exact heap_alloc_new _ _
  have c6 : Chg (fun _ => False) a4 W6 := by rw [hW]; exact (Chg.refl _ _).alloc _
  have c4 : Chg (fun _ => False) a3 W6 := by rw [ha4] at c6; exact ((Chg.refl _ a3).alloc _).trans c6 (fun _ _ x => x) (fun _ _ x => x)
  have c3 : Chg (fun _ => False) a2 W6 := by rw [ha3] at c4; exact ((Chg.refl _ a2).alloc _).trans c4 (fun _ _ x => x) (fun _ _ x => x)
  have c2 : Chg (fun _ => False) a1 W6 := by rw [ha2] at c3; exact ((Chg.refl _ a1).alloc _).trans c3 (fun _ _ x => x) (fun _ _ x => x)
  have c1 : Chg (fun _ => False) W1 W6 := by rw [ha1] at c2; exact ((Chg.refl _ W1).alloc _).trans c2 (fun _ _ x => x) (fun _ _ x => x)
  have h2 := (c3.block _ (by omega) (fun h => h)).trans g2
  have h4 := (c6.block _ (by omega) (fun h => h)).trans g4
  refine ⟨c1, (c2.block _ (by omega) (fun h => h)).trans g1, (c4.block _ (by omega) (fun h => h)).trans g3, ⟨?_, ?_, ?_⟩⟩
  · exact row_of (n := 2) (s := 1) g5 rfl (by omega)
  · intro x hx
    simp [twoL] at hx
    rcases hx with rfl | rfl
    · exact row_of (n := 1) (s := 1) h2 rfl (by omega)
    · exact row_of (n := 1) (s := 1) h4 rfl (by omega)
  · intro x hx u hu
    simp [twoL] at hx
    rcases hx with rfl | rfl
    · simp at hu
      subst hu
      rfl
    · simp at hu
      subst hu
      rfl

set_option maxRecDepth 100000 in
set_option maxHeartbeats 8000000 in
theorem s_live (W : World) : Calls Tryz.prog 6 #[] W fun e W' => e = .returned (.bool true) ∧ Chg (fun _ => False) W W' := by
  go_enter Tryz.func6, Tryz.ntmps6
  go_wp2_with fail
  refine (m_new 128 W (by omega)).mono ?_
  rintro e W1 ⟨rfl, M1, B1, C1, S1⟩
  have HM1 := keepH M1
  have HB1 := keepH B1
  have HS1 := keepH S1
  have HC1 := keepH C1
  clear M1 B1 S1 C1
  go_wp2_with fail
  refine (load_new 5 _).mono ?_
  rintro e w ⟨rfl, rfl⟩
  go_wp2_with fail
  refine (load_new 6 _).mono ?_
  rintro e w ⟨rfl, rfl⟩
  go_wp2_with fail
  obtain ⟨W6, hW6⟩ : ∃ W6, W6 = (((((W1.alloc (.cells #[.int .u64 5, .int .u64 0, .bool false] 139)).alloc (.cells #[.iface 73 (.pointer (some ⟨W1.heap.size, 0, none⟩))] 91)).alloc (.cells #[.int .u64 6, .int .u64 0, .bool false] 139)).alloc (.cells #[.iface 73 (.pointer (some ⟨W1.heap.size + 1 + 1, 0, none⟩))] 91)).alloc (.cells #[.slice (some ⟨W1.heap.size + 1, 0, none⟩) 1 1, .slice (some ⟨W1.heap.size + 1 + 1 + 1, 0, none⟩) 1 1] 76)) := ⟨_, rfl⟩
  rw [← hW6]
  obtain ⟨cL, l0, l1, LL⟩ := live_lists W1 W6 hW6
  have HL := keepH LL
  have HC6 := keepH (HC1.out.trans cL (H := fun _ => False) (fun _ _ x => x) (fun _ _ x => x))
  have HM6 := keepH (HM1.out.chg cL (fun h => h))
  have HB6 := keepH (HB1.out.chg cL (fun _ _ h => h))
  have Hl0 := keepH l0
  have Hl1 := keepH l1
  obtain ⟨n, hn⟩ : ∃ n, n = W1.heap.size := ⟨_, rfl⟩
  rw [← hn] at HL Hl0 Hl1 ⊢
  have HN := keepH hn
  clear hW6 cL l0 l1 LL hn
  refine (s_new (W.heap.size + 1) W.heap.size _ _ W6 HM6.out HL.out (twoL_ok _ _ _ _)).mono ?_
  rintro e W7 ⟨r, G, tv, ths, vbs, rfl, MD, hl⟩
  obtain ⟨v0, v1, c0, c1, g, c, rfl, rfl, rfl, LS7, D7⟩ := live_start HM6.out HB6.out Hl0.out Hl1.out MD hl (by have := HS1.out; have := HN.out; omega)
  have HR7 := keepH MD.run
  have HC7 := keepH (HC6.out.trans MD.chg (H := fun _ => False) (fun _ _ x => x) (fun _ _ x => x))
  have HLS7 := keepH LS7
  have HD7 := keepH D7
  have hGW : Hid (∀ k, G k → W.heap.size ≤ k) := fun k e => by have := MD.inG k e; have := HC6.out.size; omega
  have hKW : Hid (∀ k, inK (fun k => k = W.heap.size) (W.heap.size + 1) v0 v1 n (n + 1 + 1) k → W.heap.size ≤ k) := fun k e => by
    have h1 := (MD.views 0 v0 rfl).2.1
    have h2 := (MD.views 1 v1 rfl).2.1
    have h3 := HN.out
    have h4 := HS1.out
    have h5 := HC6.out.size
    rcases e with e | e | e | e | e | e <;> omega
  clear LS7 D7 MD hl HM6 HB6 Hl0 Hl1 HL HM1 HB1 HC1
  go_wp2_with fail
  refine (r_pick_in (vb := v1) (ths := [⟨c0, [loadI n], 0, false⟩, ⟨c1, [loadI (n + 1 + 1)], 0, false⟩]) (LS (W.heap.size + 1) W.heap.size v0 v1 n (n + 1 + 1) 0 false false) (fun d X K => d = true ∧ LS (W.heap.size + 1) W.heap.size v0 v1 n (n + 1 + 1) 1 false true X K) 0 (fun _ => 1) 1 ⟨c1, [loadI (n + 1 + 1)], 0, false⟩ (loadI (n + 1 + 1)) W7 HR7.out rfl (by simp) rfl rfl HLS7.out HD7.out
    (fun X Y K h hs hk => LS.keep h hs hk) (fun X K h => LS.lt h) (fun X K h => LS.mem h) (fun d X Y K h hs hk => ⟨h.1, LS.keep h.2 hs hk⟩) (fun d X K h => LS.lt h.2) (fun d X K h => LS.mem h.2)
    (fun X K h => ls_step1 X K h (by omega)) (by omega) (by simp) (by omega) (fun _ => by omega)).mono ?_
  rintro e W8 ⟨d, G8, K8, ev8, av8, rfl, R8, ⟨rfl, LS8⟩, D8, GG8⟩
  have HR8 := keepH R8
  have HLS8 := keepH LS8
  have HD8 := keepH D8
  have HG8 := keepH GG8
  clear R8 LS8 D8 GG8 HR7 HLS7 HD7
  go_wp2_with fail
  refine (r_pick_out 7 W8 HR8.out (.inr (by simp)) (by omega)).mono ?_
  rintro e W9 ⟨rfl, R9, GG9⟩
  have HR9 := keepH R9
  have HG9 := keepH GG9
  clear R9 GG9 HR8
  go_wp2_with fail
  refine (r_pick_done (ths := [⟨c0, [loadI n], 0, false⟩, pickThr ⟨c1, [loadI (n + 1 + 1)], 0, false⟩ true]) 1 (pickThr ⟨c1, [loadI (n + 1 + 1)], 0, false⟩ true) W9 HR9.out rfl (by simp [pickThr]) (by omega)).mono ?_
  rintro e W10 ⟨rfl, R10, GG10⟩
  have HR10 := keepH R10
  have HG10 := keepH GG10
  clear R10 GG10 HR9
  go_wp2_with fail
  refine (r_done W10 HR10.out).mono ?_
  rintro e w ⟨rfl, q, rfl⟩
  have t1 : allDone [⟨c0, [loadI n], 0, false⟩, pickThr ⟨c1, [loadI (n + 1 + 1)], 0, false⟩ true] = false := rfl
  have LS10 : Hid (LS (W.heap.size + 1) W.heap.size v0 v1 n (n + 1 + 1) 1 false true (W10.drewN q) K8) := (HLS8.out.keep HG9.out.chg.size (fun k hk => HG9.out.chg.block k (HLS8.out.lt k hk) (fun e => HD8.out k e hk))).keep (Nat.le_trans HG10.out.chg.size (Nat.le_refl _)) (fun k hk => HG10.out.chg.block k (Nat.lt_of_lt_of_le (HLS8.out.lt k hk) HG9.out.chg.size) (fun e => HD8.out k e hk))
  have HR11 := keepH (HR10.out.kept (W' := W10.drewN q) (Nat.le_refl _) (fun _ _ => rfl))
  clear HR10
  go_wp2_with fail
  refine (r_pick_in (vb := v0) (ths := [⟨c0, [loadI n], 0, false⟩, pickThr ⟨c1, [loadI (n + 1 + 1)], 0, false⟩ true]) (LS (W.heap.size + 1) W.heap.size v0 v1 n (n + 1 + 1) 1 false true) (fun d X K => d = true ∧ LS (W.heap.size + 1) W.heap.size v0 v1 n (n + 1 + 1) 2 true true X K) 1 (fun _ => 2) 0 ⟨c0, [loadI n], 0, false⟩ (loadI n) (W10.drewN q) HR11.out rfl (by simp) rfl rfl LS10.out HD8.out
    (fun X Y K h hs hk => LS.keep h hs hk) (fun X K h => LS.lt h) (fun X K h => LS.mem h) (fun d X Y K h hs hk => ⟨h.1, LS.keep h.2 hs hk⟩) (fun d X K h => LS.lt h.2) (fun d X K h => LS.mem h.2)
    (fun X K h => ls_step0 X K h (by omega)) (by omega) (by simp [pickEvs]) (by omega) (fun _ => by omega)).mono ?_
  rintro e W12 ⟨d, G12, K12, ev12, av12, rfl, R12, ⟨rfl, LS12⟩, D12, GG12⟩
  have HR12 := keepH R12
  have HLS12 := keepH LS12
  have HC12 : Hid (Chg (fun _ => False) W W12) := by
    have a1 := HC7.out.trans HG8.out.chg (H := fun _ => False) (fun _ _ x => x) (fun k hk e => by rcases e with e | e; have := hGW.out k e; omega; have := hKW.out k e; omega)
    have n8 : ∀ k, G8 k ∨ K8 k → W.heap.size ≤ k := fun k e => (HG8.out.new k e).elim (fun e => e.elim (hGW.out k) (hKW.out k)) (fun e => Nat.le_trans HC7.out.size e)
    have a2 := a1.trans HG9.out.chg (H := fun _ => False) (fun _ _ x => x) (fun k hk e => by have := n8 k (.inl e); omega)
    have a3 := a2.trans HG10.out.chg (H := fun _ => False) (fun _ _ x => x) (fun k hk e => by have := n8 k (.inl e); omega)
    have a4 := a3.trans (Goes.drewN W10 (fun _ => False) q).chg (H := fun _ => False) (fun _ _ x => x) (fun _ _ x => x)
    exact a4.trans GG12.chg (fun _ _ x => x) (fun k hk e => by have := n8 k e; omega)
  clear R12 LS12 D12 GG12 HR11 LS10 HG8 HG9 HG10 HC7
  go_wp2_with fail
  refine (r_done W12 HR12.out).mono ?_
  rintro e w ⟨rfl, q2, rfl⟩
  have t2 : allDone [pickThr ⟨c0, [loadI n], 0, false⟩ true, pickThr ⟨c1, [loadI (n + 1 + 1)], 0, false⟩ true] = true := rfl
  have HR13 := keepH (HR12.out.kept (W' := W12.drewN q2) (Nat.le_refl _) (fun _ _ => rfl))
  go_wp2_with fail
  refine (r_steps _ HR13.out).mono ?_
  rintro e w ⟨rfl, rfl⟩
  obtain ⟨evs, ats, hel, hal, ev13, av13, G13, HRx⟩ : ∃ (evs : List Ev) (ats : List Int), evs.length = 4 ∧ ats.length = 2 ∧ ∃ ev av G, Hid (RunAt (W12.drewN q2) G r (W.heap.size + 1) (vwOf [v0, v1]) (.slice (some ⟨g, 0, none⟩) 2 c) ev av [pickThr ⟨c0, [loadI n], 0, false⟩ true, pickThr ⟨c1, [loadI (n + 1 + 1)], 0, false⟩ true] 4 evs ats) := ⟨_, _, rfl, rfl, _, _, _, HR13.out⟩
  clear HR12 HR13
  go_wp2_with fail
  refine (r_events _ HRx.out (by omega)).mono ?_
  rintro e W14 ⟨p14, c14, rfl, R14, C14, B14⟩
  have HR14 := keepH (HRx.out.chg C14 (fun _ _ h => h))
  have LS14 := keepH ((HLS12.out.keep (Y := W12.drewN q2) (Nat.le_refl _) (fun _ _ => rfl)).keep C14.size (fun k hk => C14.block k (HLS12.out.lt k hk) (fun h => h)))
  have HC14 := keepH ((HC12.out.trans (Goes.drewN W12 (fun _ => False) q2).chg (H := fun _ => False) (fun _ _ x => x) (fun _ _ x => x)).trans C14 (H := fun _ => False) (fun _ _ x => x) (fun _ _ x => x))
  clear R14 C14 B14 HRx
  go_wp2_with fail
  obtain ⟨b', F', most', next', cs', l', hm', hb', hll', _, _⟩ := LS14.out.mem
  have he2 : (extN ats l'.length (-1)).length = 2 := by rw [extN_length, hal, hll']; rfl
  refine (r_at _ HR14.out hm' hb' (by omega) (by omega)).mono ?_
  rintro e W15 ⟨p15, c15, rfl, R15, C15, B15⟩
  have HC15 := keepH (HC14.out.trans C15 (H := fun _ => False) (fun _ _ x => x) (fun _ _ x => x))
  clear R15 C15 B15 hm' hb' hll'
  go_wp2_with fail
  go_ret
  exact ⟨by simp, HC15.out⟩
end Go.Proofs.YtnhiodmigmmfgaaGreat
/- StepPicks, walked. -/
namespace Go.Proofs.YtnhiodmigmmfgaaGreat
open Go.RowKit Go.Shelf
set_option linter.unusedVariables false

/-- Both have made the same picks. -/
structure Same9 (W V0 X : World) (ll : List (List PlP)) (p : Option Addr) (c8 : Nat) (c : Cfg PS) (wb q nm m r b : Nat) (sv : Value) (qv : Nat → Value) (vb : Nat → Nat) (pb : Nat → Nat → Nat) : Prop where
  ex : ∃ s, HWx W V0 X ll p c8 c s wb q nm m r b sv qv vb pb ∧ DRx ll.length (clOf ll) c s
theorem c0_vals {W : World} {p : Option Addr} {ll : List (List PlP)} {ap : Nat → Option Addr} {ac : Nat → Nat} {lp : Nat → Nat → Option Addr} {lc : Nat → Nat → Nat} (hP : ThsAt W W.heap.size p ll ap ac lp lc) (l : List Int) : PInv ll.length (clOf ll) (qOf ll) ((c0Of ll lp lc).run (plK W.heap.size W) 200 ll.length (clOf ll) l) ∧ ∀ x ∈ ((c0Of ll lp lc).run (plK W.heap.size W) 200 ll.length (clOf ll) l).t, x.vals.length ≤ 1099511627776 :=
  run_vals (fun i j hi hj d hd => (((hP i (lOf ll i) (lOf_get hi)).2 j (qOf ll i j) (qOf_get hj)).2 _ d (List.getElem?_of_mem hd).choose_spec).1.len) l _ (pinv_start ll lp lc) (fun x hx => by
      have hx' : x ∈ [(⟨9, 2, 50, 3, 0, .slice none 0 0, [], 0, false⟩ : Acc)] := hx
      simp at hx'
      rw [hx']
      simp)
section
variable {W V0 X : World} {ll : List (List PlP)} {p : Option Addr} {c8 : Nat} {c : Cfg PS} {wb q nm m r b : Nat} {sv : Value} {qv : Nat → Value} {vb : Nat → Nat} {pb : Nat → Nat → Nat}
theorem Same9.alike (h : Same9 W V0 X ll p c8 c wb q nm m r b sv qv vb pb) (hWV : Chg (fun _ => False) W V0) {ap : Nat → Option Addr} {ac : Nat → Nat} {lp : Nat → Nat → Option Addr} {lc : Nat → Nat → Nat} (hP : ThsAt W W.heap.size p ll ap ac lp lc) (hls : ∀ l ∈ ll, l.length ≤ 1048576) (hI : PInv ll.length (clOf ll) (qOf ll) c) (hst : c.st ≤ 16777216) (hv : ∀ x ∈ c.t, x.vals.length ≤ 1099511627776) :
    Calls Tryz.prog 10 #[.pointer (some ⟨wb, 0, none⟩), .pointer (some ⟨q, 0, none⟩)] X fun e Y => e = .returned (.bool true) ∧ Same9 W V0 Y ll p c8 c wb q nm m r b sv qv vb pb := by
  obtain ⟨s, h1, h2⟩ := h.ex
  obtain ⟨gg, pe, ce, pw, cw, pa, ca, ps, cs, A, Pd, gv, l4, es, ha⟩ := asks h1 hWV hP h2 hI hls hst hv
  refine (alike_walk ha).mono ?_
  rintro e Y ⟨rfl, cc⟩
  exact ⟨rfl, s, h1.quiet cc, h2⟩
theorem Same9.chg (h : Same9 W V0 X ll p c8 c wb q nm m r b sv qv vb pb) : Chg (fun _ => False) V0 X := by
  obtain ⟨s, h1, h2⟩ := h.ex
  exact h1.chg
theorem Same9.cell (h : Same9 W V0 X ll p c8 c wb q nm m r b sv qv vb pb) : X.cell? ⟨wb, 1, none⟩ = some (.pointer (some ⟨r, 0, none⟩)) := by
  obtain ⟨s, h1, h2⟩ := h.ex
  exact h1.cell.1
theorem Same9.quiet {Y : World} (h : Same9 W V0 X ll p c8 c wb q nm m r b sv qv vb pb) (g : Chg (fun _ => False) X Y) : Same9 W V0 Y ll p c8 c wb q nm m r b sv qv vb pb := by
  obtain ⟨s, h1, h2⟩ := h.ex
  exact ⟨s, h1.quiet g, h2⟩
/-- The program ahead by one pick. -/
structure Ahead9 (W V0 X : World) (ll : List (List PlP)) (p : Option Addr) (c8 : Nat) (c d : Cfg PS) (wb q nm m r b : Nat) (sv : Value) (qv : Nat → Value) (vb : Nat → Nat) (pb : Nat → Nat → Nat) : Prop where
  ex : ∃ s, HWx W V0 X ll p c8 c s wb q nm m r b sv qv vb pb ∧ DRx ll.length (clOf ll) d s
theorem Same9.pick (h : Same9 W V0 X ll p c8 c wb q nm m r b sv qv vb pb) (th : Int) (hst : c.st ≤ 16777216) : Calls Tryz.prog 8 #[.pointer (some ⟨r, 0, none⟩), .int .i64 th] X fun e Y => e = .returned (.bool (decide (Cfg.can ll.length (clOf ll) c th))) ∧ Ahead9 W V0 Y ll p c8 (c.pick (plK W.heap.size W) 200 ll.length (clOf ll) th) c wb q nm m r b sv qv vb pb := by
  obtain ⟨s, h1, h2⟩ := h.ex
  refine (hwx_pickP h1 th hst).mono ?_
  rintro e Y ⟨rfl, h3⟩
  exact ⟨rfl, s, h3, h2⟩
theorem Ahead9.chg {d : Cfg PS} (h : Ahead9 W V0 X ll p c8 c d wb q nm m r b sv qv vb pb) : Chg (fun _ => False) V0 X ∧ X.cell? ⟨wb, 1, none⟩ = some (.pointer (some ⟨r, 0, none⟩)) := by
  obtain ⟨s, h1, h2⟩ := h.ex
  exact ⟨h1.chg, h1.cell.1⟩
theorem Ahead9.pick {d : Cfg PS} (h : Ahead9 W V0 X ll p c8 c d wb q nm m r b sv qv vb pb) (hWV : Chg (fun _ => False) W V0) {ap : Nat → Option Addr} {ac : Nat → Nat} {lp : Nat → Nat → Option Addr} {lc : Nat → Nat → Nat} (hP : ThsAt W W.heap.size p ll ap ac lp lc) (hls : ∀ l ∈ ll, l.length ≤ 1048576) (hL : ∀ l ∈ ll, ∀ q ∈ l, q.L.length ≤ 1048576) (hI : PInv ll.length (clOf ll) (qOf ll) d) (hst : d.st ≤ 16777216) (th : Int) : Calls Tryz.prog 9 #[.pointer (some ⟨q, 0, none⟩), .int .i64 th] X fun e Y => e = .returned (.bool (decide (Cfg.can ll.length (clOf ll) d th))) ∧ Ahead9 W V0 Y ll p c8 c (d.pick (plK W.heap.size W) 200 ll.length (clOf ll) th) wb q nm m r b sv qv vb pb := by
  obtain ⟨s, h1, h2⟩ := h.ex
  refine (hwx_pickD h1 hWV hP hls hL h2 hI (by rw [h2.st]; exact hst) th).mono ?_
  rintro e Y ⟨rfl, s', h3, -, h4⟩
  exact ⟨rfl, s', h3, h4⟩
end
set_option maxRecDepth 100000 in
set_option maxHeartbeats 16000000 in
theorem picks_walk {W : World} {p : Option Addr} {c8 : Nat} {ll : List (List PlP)} {ap : Nat → Option Addr} {ac : Nat → Nat} {lp : Nat → Nat → Option Addr} {lc : Nat → Nat → Nat} (hP : ThsAt W W.heap.size p ll ap ac lp lc) (hll : ll.length ≤ 1048576) (hls : ∀ l ∈ ll, l.length ≤ 1048576) (hL : ∀ l ∈ ll, ∀ q ∈ l, q.L.length ≤ 1048576) {pa : Option Addr} {ca : Nat} {la : List Int} (hA : IReads W pa la) (hla : la.length ≤ 1048576) :
    Calls Tryz.prog 3 #[.slice p ll.length c8, .slice pa la.length ca] W fun e W' => e = .returned (.bool true) ∧ Chg (fun _ => False) W W' := by
  have HP := keepH hP
  have HLS := keepH hls
  have HL := keepH hL
  have HA := keepH hA
  have HL1 := keepH (s_live W)
  clear hP hls hL hA
  go_enter Tryz.func3, Tryz.ntmps3
  go_wp2_with fail
  refine HL1.out.mono ?_
  rintro e V0 ⟨rfl, c0⟩
  have HC0 := keepH c0
  clear c0 HL1
  cases hb : tooL ll with
  | true =>
    have HB1 := keepH (both_long (c8 := c8) HC0.out HP.out hll HLS.out HL.out hb)
    clear hb
    go_wp2_with fail
    refine HB1.out.mono ?_
    rintro e Y1 ⟨wb1, rfl, c1⟩
    have HC1 : Hid (Chg (fun _ => False) W Y1) := HC0.out.trans c1 (fun _ _ x => x) (fun _ _ x => x)
    clear c1
    go_wp2_with fail
    go_ret
    exact ⟨by simp, HC1.out⟩
  | false =>
    have HB1 := keepH (both_all (c8 := c8) HC0.out HP.out hll HLS.out HL.out hb)
    clear hb
    go_wp2_with fail
    refine HB1.out.mono ?_
    rintro e Y1 ⟨wb, q, rfl, m, r, b, nm, sv, qv, vb, pb, K, hwb, hV, g1, d1, hK, hM, hm⟩
    obtain ⟨c0, hc0⟩ : ∃ c0, c0 = c0Of ll lp lc := ⟨_, rfl⟩
    have HS0 : Hid (Same9 W V0 Y1 ll p c8 c0 wb q nm m r b sv qv vb pb) := by
      rw [hc0]
      exact ⟨⟨r0S, hwx_start hwb hV g1 d1 hK hM hm, drx_start ll lp lc⟩⟩
    have HPI : Hid (∀ l, PInv ll.length (clOf ll) (qOf ll) (c0.run (plK W.heap.size W) 200 ll.length (clOf ll) l) ∧ ∀ x ∈ (c0.run (plK W.heap.size W) 200 ll.length (clOf ll) l).t, x.vals.length ≤ 1099511627776) := by
      rw [hc0]; exact fun l => c0_vals HP.out l
    have HST : Hid (∀ l, (c0.run (plK W.heap.size W) 200 ll.length (clOf ll) l).st = l.length) := fun l => by
      rw [run_st, hc0]; show 0 + l.length = _; omega
    have HIA : Hid (IReads V0 pa la) := HA.out.chg HC0.out
    clear hc0 hwb hV g1 d1 hK hM hm HB1 HA
    go_wp2_with fail
    go_loopw [8] (fun s wx => ∃ k : Nat, k ≤ la.length ∧ s = .int .i64 (k : Int) ∧ Hid (Same9 W V0 wx ll p c8 (c0.run (plK W.heap.size W) 200 ll.length (clOf ll) (la.take k)) wb q nm m r b sv qv vb pb)) (fun s _ => la.length - (intOf s).toNat)
    case atStart => exact ⟨0, Nat.zero_le _, rfl, HS0⟩
    case round =>
      clear HS0
      obtain ⟨k, hkl, rfl, HS⟩ := hrel
      obtain ⟨w0, hw0⟩ : ∃ q, q = wr := ⟨_, rfl⟩
      subst hw0
      obtain ⟨c, hc⟩ : ∃ c, c = c0.run (plK W.heap.size W) 200 ll.length (clOf ll) (la.take k) := ⟨_, rfl⟩
      rw [← hc] at HS
      have hcst : c.st ≤ 1048576 := by rw [hc, HST.out, List.length_take]; omega
      have HIc : Hid (PInv ll.length (clOf ll) (qOf ll) c ∧ ∀ x ∈ c.t, x.vals.length ≤ 1099511627776) := by rw [hc]; exact HPI.out _
      by_cases hk : k < la.length
      · have t1 : (k : Int) < (la.length : Int) := by omega
        obtain ⟨x, hx⟩ : ∃ x, la[k]? = some x := ⟨la[k], List.getElem?_eq_getElem hk⟩
        have HRN : Hid (c0.run (plK W.heap.size W) 200 ll.length (clOf ll) (la.take (k + 1)) = c.pick (plK W.heap.size W) 200 ll.length (clOf ll) x) := by rw [hc]; exact Cfg.run_more _ _ _ _ _ _ _ _ hx
        have HI2 : Hid (PInv ll.length (clOf ll) (qOf ll) (c.pick (plK W.heap.size W) 200 ll.length (clOf ll) x) ∧ ∀ y ∈ (c.pick (plK W.heap.size W) 200 ll.length (clOf ll) x).t, y.vals.length ≤ 1099511627776) := by rw [← HRN.out]; exact HPI.out _
        obtain ⟨d, hd⟩ : ∃ d, d = c.pick (plK W.heap.size W) 200 ll.length (clOf ll) x := ⟨_, rfl⟩
        have hdst : d.st ≤ 16777216 := by rw [hd, pick_st]; omega
        rw [← hd] at HRN HI2
        obtain ⟨bb, hbb⟩ : ∃ bb, bb = decide (Cfg.can ll.length (clOf ll) c x) := ⟨_, rfl⟩
        have HPP : Hid (∀ Z, Same9 W V0 Z ll p c8 c wb q nm m r b sv qv vb pb → Calls Tryz.prog 8 #[.pointer (some ⟨r, 0, none⟩), .int .i64 x] Z fun e Y => e = .returned (.bool bb) ∧ Ahead9 W V0 Y ll p c8 d c wb q nm m r b sv qv vb pb) := fun Z hZ => by rw [hd, hbb]; exact hZ.pick x (by omega)
        have HPD : Hid (∀ Z, Ahead9 W V0 Z ll p c8 d c wb q nm m r b sv qv vb pb → Calls Tryz.prog 9 #[.pointer (some ⟨q, 0, none⟩), .int .i64 x] Z fun e Y => e = .returned (.bool bb) ∧ Same9 W V0 Y ll p c8 d wb q nm m r b sv qv vb pb) := fun Z hZ => by
          have z := hZ.pick HC0.out HP.out HLS.out HL.out HIc.out.1 (by omega) x
          rw [← hd, ← hbb] at z
          refine z.mono ?_
          rintro e Y ⟨rfl, h⟩
          exact ⟨rfl, ⟨h.ex⟩⟩
        have HAL : Hid (∀ Z, Same9 W V0 Z ll p c8 d wb q nm m r b sv qv vb pb → Calls Tryz.prog 10 #[.pointer (some ⟨wb, 0, none⟩), .pointer (some ⟨q, 0, none⟩)] Z fun e Y => e = .returned (.bool true) ∧ Same9 W V0 Y ll p c8 d wb q nm m r b sv qv vb pb) := fun Z hZ => hZ.alike HC0.out HP.out HLS.out HI2.out.1 hdst HI2.out.2
        obtain ⟨bk, off, epa, hbk, hcx⟩ := HIA.out.get k x hx
        subst epa
        have HCX : Hid (∀ w, Chg (fun _ => False) V0 w → w.cell? ⟨bk, off + k, none⟩ = some (.int .i64 x)) := fun w cw => cell_chg cw hcx (fun h => h)
        clear hc hx hcx hbb hd HIc
        go_upto_region 9 with fail
        go_cut [51] from 30 to 50 (fun s51 wx => s51 = .bool false ∧ Hid (Same9 W V0 wx ll p c8 d wb q nm m r b sv qv vb pb))
        case first =>
          refine wp_region_held_drew (S := fun w => w.cell? ⟨wb, 1, none⟩ = some (.pointer (some ⟨r, 0, none⟩)) ∧ w.cell? ⟨bk, off + k, none⟩ = some (.int .i64 x)) (by kernel_rfl) ⟨HS.out.cell, HCX.out _ (HS.out.quiet ((Chg.refl _ _).drew)).chg⟩ ?_
          have HY0 : Hid (Same9 W V0 w0.drew ll p c8 c wb q nm m r b sv qv vb pb) := HS.out.quiet ((Chg.refl _ _).drew)
          obtain ⟨y0, hy0⟩ : ∃ y0, y0 = w0.drew := ⟨_, rfl⟩
          rw [← hy0] at HY0 ⊢
          clear hy0
          intro hHeld
          refine wpAnyH_take (i := 0) (v := ?_) rfl (by kernel_rfl) (by kernel_rfl) (by kernel_rfl) (fun _ _ _ h => h) (Or.inl ⟨by first | rfl | kernel_rfl, ?_⟩) hHeld ?_
          rotate_left
          · intro w hSw
            (try dsimp only at hSw)
            go_simp
            try with_reducible rfl
          (try simp only [Act.put, List.getElem_toArray, List.getElem_cons_zero]); (try simp only [List.setIfInBounds_toArray]); (repeat (first | simp only [List.set_cons_succ] | simp only [List.set_cons_zero]))
          refine wpAnyH_take (i := 1) (v := ?_) rfl (by kernel_rfl) (by kernel_rfl) (by kernel_rfl) (fun _ _ _ h => h) (Or.inl ⟨by first | rfl | kernel_rfl, ?_⟩) hHeld ?_
          rotate_left
          · intro w hSw
            (try dsimp only at hSw)
            go_simp
            try with_reducible rfl
          (try simp only [Act.put, List.getElem_toArray, List.getElem_cons_succ, List.getElem_cons_zero]); (try simp only [List.setIfInBounds_toArray]); (repeat (first | simp only [List.set_cons_succ] | simp only [List.set_cons_zero]))
          refine wpAnyH_take (i := 2) (v := ?_) rfl (by kernel_rfl) (by kernel_rfl) (by kernel_rfl) (fun _ _ _ h => h) (Or.inl ⟨by first | rfl | kernel_rfl, ?_⟩) hHeld ?_
          rotate_left
          · intro w hSw
            (try dsimp only at hSw)
            go_simp
            try with_reducible rfl
          (try simp only [Act.put, List.getElem_toArray, List.getElem_cons_succ, List.getElem_cons_zero]); (try simp only [List.setIfInBounds_toArray]); (repeat (first | simp only [List.set_cons_succ] | simp only [List.set_cons_zero]))
          refine wpAnyH_take (i := 3) (v := ?_) rfl (by kernel_rfl) (by kernel_rfl) (by kernel_rfl) (fun _ _ _ h => h) (Or.inl ⟨by first | rfl | kernel_rfl, ?_⟩) hHeld ?_
          rotate_left
          · intro w hSw
            (try dsimp only at hSw)
            go_simp
            try with_reducible rfl
          (try simp only [Act.put, List.getElem_toArray, List.getElem_cons_succ, List.getElem_cons_zero]); (try simp only [List.setIfInBounds_toArray]); (repeat (first | simp only [List.set_cons_succ] | simp only [List.set_cons_zero]))
          refine wpAnyH_take (i := 4) (v := ?_) rfl (by kernel_rfl) (by kernel_rfl) (by kernel_rfl) (fun _ _ _ h => h) (Or.inl ⟨by first | rfl | kernel_rfl, ?_⟩) hHeld ?_
          rotate_left
          · intro w hSw
            (try dsimp only at hSw)
            go_simp
            try with_reducible rfl
          (try simp only [Act.put, List.getElem_toArray, List.getElem_cons_succ, List.getElem_cons_zero]); (try simp only [List.setIfInBounds_toArray]); (repeat (first | simp only [List.set_cons_succ] | simp only [List.set_cons_zero]))
          refine wpAnyH_take (i := 5) (v := ?_) rfl (by kernel_rfl) (by kernel_rfl) (by kernel_rfl) (fun _ _ _ h => h) (Or.inl ⟨by first | rfl | kernel_rfl, ?_⟩) hHeld ?_
          rotate_left
          · intro w hSw
            (try dsimp only at hSw)
            go_simp
            try with_reducible rfl
          (try simp only [Act.put, List.getElem_toArray, List.getElem_cons_succ, List.getElem_cons_zero]); (try simp only [List.setIfInBounds_toArray]); (repeat (first | simp only [List.set_cons_succ] | simp only [List.set_cons_zero]))
          refine wpAnyH_take (i := 6) (v := ?_) rfl (by kernel_rfl) (by kernel_rfl) (by kernel_rfl) (fun _ _ _ h => h) (Or.inl ⟨by first | rfl | kernel_rfl, ?_⟩) hHeld ?_
          rotate_left
          · intro w hSw
            (try dsimp only at hSw)
            go_simp
            try with_reducible rfl
          (try simp only [Act.put, List.getElem_toArray, List.getElem_cons_succ, List.getElem_cons_zero]); (try simp only [List.setIfInBounds_toArray]); (repeat (first | simp only [List.set_cons_succ] | simp only [List.set_cons_zero]))
          refine wpAnyH_take (i := 7) (v := ?_) rfl (by kernel_rfl) (by kernel_rfl) (by kernel_rfl) (fun _ _ _ h => h) (Or.inl ⟨by first | rfl | kernel_rfl, ?_⟩) hHeld ?_
          rotate_left
          · intro w hSw
            (try dsimp only at hSw)
            go_simp
            try with_reducible rfl
          (try simp only [Act.put, List.getElem_toArray, List.getElem_cons_succ, List.getElem_cons_zero]); (try simp only [List.setIfInBounds_toArray]); (repeat (first | simp only [List.set_cons_succ] | simp only [List.set_cons_zero]))
          refine wpAnyH_take (i := 9) (v := ?_) rfl (by kernel_rfl) (by kernel_rfl) (by kernel_rfl) (fun _ _ _ h => h) (Or.inl ⟨by first | rfl | kernel_rfl, ?_⟩) hHeld ?_
          rotate_left
          · intro w hSw
            (try dsimp only at hSw)
            go_simp
            try with_reducible rfl
          (try simp only [Act.put, List.getElem_toArray, List.getElem_cons_succ, List.getElem_cons_zero]); (try simp only [List.setIfInBounds_toArray]); (repeat (first | simp only [List.set_cons_succ] | simp only [List.set_cons_zero]))
          refine wpAnyH_take (i := 10) (v := ?_) rfl (by kernel_rfl) (by kernel_rfl) (by kernel_rfl) (fun _ _ _ h => h) (Or.inl ⟨by first | rfl | kernel_rfl, ?_⟩) hHeld ?_
          rotate_left
          · intro w hSw
            (try dsimp only at hSw)
            go_simp
            try with_reducible rfl
          (try simp only [Act.put, List.getElem_toArray, List.getElem_cons_succ, List.getElem_cons_zero]); (try simp only [List.setIfInBounds_toArray]); (repeat (first | simp only [List.set_cons_succ] | simp only [List.set_cons_zero]))
          refine wpAnyH_take (i := 11) (v := ?_) rfl (by kernel_rfl) (by kernel_rfl) (by kernel_rfl) (fun _ _ _ h => h) (Or.inl ⟨by first | rfl | kernel_rfl, ?_⟩) hHeld ?_
          rotate_left
          · intro w hSw
            (try dsimp only at hSw)
            go_simp
            try with_reducible rfl
          (try simp only [Act.put, List.getElem_toArray, List.getElem_cons_succ, List.getElem_cons_zero]); (try simp only [List.setIfInBounds_toArray]); (repeat (first | simp only [List.set_cons_succ] | simp only [List.set_cons_zero]))
          refine wpAnyH_take (i := 12) (v := ?_) rfl (by kernel_rfl) (by kernel_rfl) (by kernel_rfl) (fun _ _ _ h => h) (Or.inl ⟨by first | rfl | kernel_rfl, ?_⟩) hHeld ?_
          rotate_left
          · intro w hSw
            (try dsimp only at hSw)
            go_simp
            try with_reducible rfl
          (try simp only [Act.put, List.getElem_toArray, List.getElem_cons_succ, List.getElem_cons_zero]); (try simp only [List.setIfInBounds_toArray]); (repeat (first | simp only [List.set_cons_succ] | simp only [List.set_cons_zero]))
          refine wpAnyH_take (i := 13) (v := ?_) rfl (by kernel_rfl) (by kernel_rfl) (by kernel_rfl) (fun _ _ _ h => h) (Or.inl ⟨by first | rfl | kernel_rfl, ?_⟩) hHeld ?_
          rotate_left
          · intro w hSw
            (try dsimp only at hSw)
            go_simp
            try with_reducible rfl
          (try simp only [Act.put, List.getElem_toArray, List.getElem_cons_succ, List.getElem_cons_zero]); (try simp only [List.setIfInBounds_toArray]); (repeat (first | simp only [List.set_cons_succ] | simp only [List.set_cons_zero]))
          refine wpAnyH_ready (rs := [8]) (by kernel_rfl) (by simp) ?_
          refine (AllReadyH.cons rfl (fun KK hKK => ?_) AllReadyH.nil)
          go_simp
          go_at_call 8
          refine (HPP.out _ HY0.out).mono ?_
          rintro e y1 ⟨rfl, h1⟩
          have HY1 := keepH h1
          clear h1
          (try go_wp2_with fail)
          refine hKK.out _ _ ?_ (fun hHeld => ?_)
          · exact ⟨HY1.out.chg.2, HCX.out _ HY1.out.chg.1⟩
          clear hKK KK
          (try simp only [Act.put, List.getElem_toArray, List.getElem_cons_succ, List.getElem_cons_zero]); (try simp only [List.setIfInBounds_toArray]); (repeat (first | simp only [List.set_cons_succ] | simp only [List.set_cons_zero]))
          refine wpAnyH_ready (rs := [14]) (by kernel_rfl) (by simp) ?_
          refine (AllReadyH.cons rfl (fun KK hKK => ?_) AllReadyH.nil)
          go_simp
          go_at_call 9
          refine (HPD.out _ HY1.out).mono ?_
          rintro e y2 ⟨rfl, h2⟩
          have HY2 := keepH h2
          clear h2
          (try go_wp2_with fail)
          refine hKK.out _ _ ?_ (fun hHeld => ?_)
          · exact ⟨HY2.out.cell, HCX.out _ HY2.out.chg⟩
          clear hKK KK
          (try simp only [Act.put, List.getElem_toArray, List.getElem_cons_succ, List.getElem_cons_zero]); (try simp only [List.setIfInBounds_toArray]); (repeat (first | simp only [List.set_cons_succ] | simp only [List.set_cons_zero]))
          refine wpAnyH_take (i := 15) (v := ?_) rfl (by kernel_rfl) (by kernel_rfl) (by kernel_rfl) (fun _ _ _ h => h) (Or.inl ⟨by first | rfl | kernel_rfl, ?_⟩) hHeld ?_
          rotate_left
          · intro w hSw
            (try dsimp only at hSw)
            go_simp
            try with_reducible rfl
          (try simp only [Act.put, List.getElem_toArray, List.getElem_cons_succ, List.getElem_cons_zero]); (try simp only [List.setIfInBounds_toArray]); (repeat (first | simp only [List.set_cons_succ] | simp only [List.set_cons_zero]))
          refine wpAnyH_take (i := 16) (v := ?_) rfl (by kernel_rfl) (by kernel_rfl) (by kernel_rfl) (fun _ _ _ h => h) (Or.inl ⟨by first | rfl | kernel_rfl, ?_⟩) hHeld ?_
          rotate_left
          · intro w hSw
            (try dsimp only at hSw)
            go_simp
            try with_reducible rfl
          (try simp only [Act.put, List.getElem_toArray, List.getElem_cons_succ, List.getElem_cons_zero]); (try simp only [List.setIfInBounds_toArray]); (repeat (first | simp only [List.set_cons_succ] | simp only [List.set_cons_zero]))
          refine wpAnyH_take (i := 17) (v := ?_) rfl (by kernel_rfl) (by kernel_rfl) (by kernel_rfl) (fun _ _ _ h => h) (Or.inl ⟨by first | rfl | kernel_rfl, ?_⟩) hHeld ?_
          rotate_left
          · intro w hSw
            (try dsimp only at hSw)
            go_simp
            try with_reducible rfl
          (try simp only [Act.put, List.getElem_toArray, List.getElem_cons_succ, List.getElem_cons_zero]); (try simp only [List.setIfInBounds_toArray]); (repeat (first | simp only [List.set_cons_succ] | simp only [List.set_cons_zero]))
          refine wpAnyH_take (i := 18) (v := ?_) rfl (by kernel_rfl) (by kernel_rfl) (by kernel_rfl) (fun _ _ _ h => h) (Or.inl ⟨by first | rfl | kernel_rfl, ?_⟩) hHeld ?_
          rotate_left
          · intro w hSw
            (try dsimp only at hSw)
            go_simp
            try with_reducible rfl
          (try simp only [Act.put, List.getElem_toArray, List.getElem_cons_succ, List.getElem_cons_zero]); (try simp only [List.setIfInBounds_toArray]); (repeat (first | simp only [List.set_cons_succ] | simp only [List.set_cons_zero]))
          refine wpAnyH_ready (rs := [19]) (by kernel_rfl) (by simp) ?_
          refine (AllReadyH.cons rfl (fun KK hKK => ?_) AllReadyH.nil)
          go_simp
          go_at_call 10
          refine (HAL.out _ HY2.out).mono ?_
          rintro e y3 ⟨rfl, h3⟩
          have HY3 := keepH h3
          clear h3
          (try go_wp2_with fail)
          refine hKK.out _ _ ?_ (fun hHeld => ?_)
          · exact ⟨HY3.out.cell, HCX.out _ HY3.out.chg⟩
          clear hKK KK
          (try simp only [Act.put, List.getElem_toArray, List.getElem_cons_succ, List.getElem_cons_zero]); (try simp only [List.setIfInBounds_toArray]); (repeat (first | simp only [List.set_cons_succ] | simp only [List.set_cons_zero]))
          refine wpAnyH_take (i := 20) (v := ?_) rfl (by kernel_rfl) (by kernel_rfl) (by kernel_rfl) (fun _ _ _ h => h) (Or.inl ⟨by first | rfl | kernel_rfl, ?_⟩) hHeld ?_
          rotate_left
          · intro w hSw
            (try dsimp only at hSw)
            go_simp
            try with_reducible rfl
          (try simp only [Act.put, List.getElem_toArray, List.getElem_cons_succ, List.getElem_cons_zero]); (try simp only [List.setIfInBounds_toArray]); (repeat (first | simp only [List.set_cons_succ] | simp only [List.set_cons_zero]))
          refine wpAnyH_take (i := 21) (v := ?_) rfl (by kernel_rfl) (by kernel_rfl) (by kernel_rfl) (fun _ _ _ h => h) (Or.inl ⟨by first | rfl | kernel_rfl, ?_⟩) hHeld ?_
          rotate_left
          · intro w hSw
            (try dsimp only at hSw)
            go_simp
            try with_reducible rfl
          (try simp only [Act.put, List.getElem_toArray, List.getElem_cons_succ, List.getElem_cons_zero]); (try simp only [List.setIfInBounds_toArray]); (repeat (first | simp only [List.set_cons_succ] | simp only [List.set_cons_zero]))
          refine wpAnyH_done (by kernel_rfl) ?_ _
          go_simp
          (try go_wp2_with fail)
          go_meet
          exact ⟨rfl, HY3⟩
        case rest =>
          obtain ⟨rfl, HS2⟩ := hcut
          obtain ⟨w2, hw2⟩ : ∃ q, q = wc := ⟨_, rfl⟩
          subst hw2
          go_wp2_with fail
          go_roundw
          case rel => exact ⟨k + 1, by omega, by first | rfl | go_num, by rw [HRN.out]; exact HS2⟩
          case measure => simp [intOf]; omega
      · have t1 : ¬ (k : Int) < (la.length : Int) := by omega
        have HAL := keepH (HS.out.alike HC0.out HP.out HLS.out HIc.out.1 (by omega) HIc.out.2)
        clear hc
        go_wp2_with fail
        refine HAL.out.mono ?_
        rintro e w2 ⟨rfl, h2⟩
        have HC2 : Hid (Chg (fun _ => False) W w2) := HC0.out.trans h2.chg (fun _ _ x => x) (fun _ _ x => x)
        clear h2
        go_wp2_with fail
        go_ret
        exact ⟨by simp, HC2.out⟩
end Go.Proofs.YtnhiodmigmmfgaaGreat
/- Picks that come in. -/
namespace Go.Proofs.YtnhiodmigmmfgaaGreat
open Go.RowKit Go.Shelf Go.Joins Go.ChangeShapes Go.WideShapes Go.Deep
set_option linter.unusedVariables false

theorem coInt : Tryz.prog.cellsOf 3 = 1 := by kernel_rfl

set_option maxRecDepth 100000 in
theorem ints_open {H : Type} {enc : TypeId × Value → H} {W : World} {sp : Nat → Bool} {held : Bool} {p : Option Addr} {n c : Nat} {d : DataW H} {ps : List MemPlace} (h : DataW.Trod enc Tryz.prog W 0 sp held 23 (.slice p n c) d ps) :
    ∃ xs : List Int, xs.length = n ∧ IReads W p xs ∧ n ≤ Rows.uptoBulk d ∧ ∀ x ∈ xs, (Lit.int .i64 x).wf = true := by
  obtain ⟨fuel, hf⟩ := h
  rcases open_ints Tryz.underlying23 Tryz.underlying3 coInt hf with ⟨hcs, _⟩ | ⟨a, len, cap, zs, hcs, _, hl, hm, hme, hx, hi, hw⟩
  · simp [Value.cells] at hcs
    obtain ⟨rfl, rfl, rfl⟩ := hcs
    exact ⟨[], rfl, .inl rfl, Nat.zero_le _, fun x hx => by simp at hx⟩
  · simp [Value.cells] at hcs
    obtain ⟨rfl, rfl, rfl⟩ := hcs
    have hmn : n ≤ zs.length := by rw [hme]; split <;> omega
    have hb : n ≤ Rows.uptoBulk d := by
      simp only [Prod.mk.injEq] at hx
      rw [hx.1]
      have := bulk_length (H := H) (lits .i64 (zs.take n))
      simp only [Rows.uptoBulk]
      have e : (lits (H := H) .i64 (zs.take n)).length = n := by simp [lits]; omega
      omega
    refine ⟨zs.take n, by simp; omega, ?_, hb, fun x hx => hw x (List.mem_of_mem_take hx)⟩
    rcases Nat.eq_zero_or_pos n with h0 | h0
    · exact .inl (by rw [h0]; rfl)
    · obtain ⟨bk, off, spot⟩ := a
      have c0 := hi 0 (by omega)
      have hspot : spot = none := by simpa [Addr.add] using World.cell?_spot c0
      subst hspot
      have hbk : bk < W.heap.size := by
        by_cases cb : bk < W.heap.size
        · exact cb
        · simp [World.cell?, Addr.add, Array.getElem?_eq_none (show W.heap.size ≤ bk by omega)] at c0
      refine .inr ⟨bk, off, rfl, hbk, fun i x hx => ?_⟩
      have hin : i < n := by
        have := (List.getElem?_eq_some_iff.1 hx).1
        simp at this
        omega
      rw [List.getElem?_take, if_pos hin] at hx
      have e := hi i (by omega)
      rw [List.getD_eq_getElem?_getD, hx] at e
      have e3 : (⟨bk, off, none⟩ : Addr).add i = ⟨bk, off + i, none⟩ := by
        unfold Addr.add
        split <;> simp
      rw [← e3]
      simpa using e
end Go.Proofs.YtnhiodmigmmfgaaGreat
