/- Many adders, a thread each: what a step of one does. -/
import Derived.Test.YtmckdefijcnhcacSAdd
namespace Go.Proofs.Ytmckdefijcnhcac
open Go.RowKit Go.Shelf

def upd {α : Type} (f : Nat → α) (i : Nat) (v : α) : Nat → α := fun j => if j = i then v else f j
theorem upd_same {α : Type} (f : Nat → α) (i : Nat) (v : α) : upd f i v i = v := by simp [upd]
theorem upd_other {α : Type} (f : Nat → α) (i j : Nat) (v : α) (h : j ≠ i) : upd f i v j = f j := by simp [upd, h]

/-- What the memory and the adders hold. -/
structure AS where
  cs : List Nat
  l : List Acc
  md : Nat → Nat
  lf : Nat → Nat
  ld : Nat → Bool
  sw : Nat → Nat

structure ASt (X : World) (F : Nat → Prop) (m b T : Nat) (vb ps : Nat → Nat) (s : AS) : Prop where
  bank : Bank X F b 128 3 s.cs s.l
  mem : IsMem X m b
  vw : ∀ i, i < T → IsView X (vb i) b (i : Int) (s.md i)
  ad : ∀ i, i < T → IsAdder X (ps i) (s.lf i) (s.ld i) (s.sw i)
  nm : ¬ F m
  nv : ∀ i, i < T → ¬ F (vb i)
  np : ∀ i, i < T → ¬ F (ps i)
  mv : ∀ i, i < T → m ≠ vb i ∧ m ≠ ps i
  vp : ∀ i j, i < T → j < T → vb i ≠ ps j
  vv : ∀ i j, i < T → j < T → i ≠ j → vb i ≠ vb j
  pp : ∀ i j, i < T → j < T → i ≠ j → ps i ≠ ps j
def inA (F : Nat → Prop) (m T : Nat) (vb ps : Nat → Nat) (k : Nat) : Prop := F k ∨ k = m ∨ ∃ i, i < T ∧ (k = vb i ∨ k = ps i)
def AA (m b T : Nat) (vb ps : Nat → Nat) (s : AS) (X : World) (K : Nat → Prop) : Prop := ∃ F, ASt X F m b T vb ps s ∧ K = inA F m T vb ps

theorem AA.keep {m b T : Nat} {vb ps : Nat → Nat} {s : AS} {X Y : World} {K : Nat → Prop} (h : AA m b T vb ps s X K) (hs : X.heap.size ≤ Y.heap.size) (hk : ∀ k, K k → Y.heap[k]? = X.heap[k]?) : AA m b T vb ps s Y K := by
  obtain ⟨F, h, rfl⟩ := h
  exact ⟨F, { h with bank := h.bank.kept hs (fun k e => hk k (.inl e)), mem := (hk m (.inr (.inl rfl))).trans h.mem, vw := fun i hi => (hk (vb i) (.inr (.inr ⟨i, hi, .inl rfl⟩))).trans (h.vw i hi), ad := fun i hi => (hk (ps i) (.inr (.inr ⟨i, hi, .inr rfl⟩))).trans (h.ad i hi) }, rfl⟩
theorem AA.lt {m b T : Nat} {vb ps : Nat → Nat} {s : AS} {X : World} {K : Nat → Prop} (h : AA m b T vb ps s X K) (k : Nat) (hk : K k) : k < X.heap.size := by
  obtain ⟨F, h, rfl⟩ := h
  obtain ⟨_, _, B⟩ := h.bank
  rcases hk with e | rfl | ⟨i, hi, rfl | rfl⟩
  · exact B.lt k e
  · exact h.mem.lt
  · exact (h.vw i hi).lt
  · exact lt_of (h.ad i hi)
theorem AA.mem {m b T : Nat} {vb ps : Nat → Nat} {s : AS} {X : World} {K : Nat → Prop} (h : AA m b T vb ps s X K) : ∃ b F most next cs l, IsMem X m b ∧ Bank X F b most next cs l ∧ l.length = s.l.length ∧ (∀ k, F k → K k) ∧ K m := by
  obtain ⟨F, h, rfl⟩ := h
  exact ⟨b, F, 128, 3, s.cs, s.l, h.mem, h.bank, rfl, fun k e => .inl e, .inr (.inl rfl)⟩

def loadS (s : AS) (i : Nat) (vs : Value) : AS := { s with l := s.l ++ [⟨(i : Int), 1, 1, 0, 0, vs, [], cellN s.cs 1, false⟩], md := upd s.md i (s.md i + 1), ld := upd s.ld i true, sw := upd s.sw i (cellN s.cs 1) }
def addS (s : AS) (i : Nat) (vs : Value) : AS := { s with cs := stN 128 s.cs 2 (addN (cellN s.cs 2) 1), l := s.l ++ [⟨(i : Int), 4, 2, 1, 0, vs, [], cellN s.cs 2, false⟩], md := upd s.md i (s.md i + 1), lf := upd s.lf i (s.lf i - 1), ld := upd s.ld i false }
def nxt (s : AS) (i : Nat) (d : Bool) (s' : AS) : Prop := ∃ vs, (s.ld i = false ∧ d = false ∧ s' = loadS s i vs) ∨ (s.ld i = true ∧ d = decide (s.lf i - 1 = 0) ∧ s' = addS s i vs)

/-- Behind a step of one adder all the others are as they were. -/
theorem as_end {X X1 Y : World} {F F' : Nat → Prop} {m b T i : Nat} {vb ps : Nat → Nat} {s s' : AS} (h : ASt X F m b T vb ps s) (hi : i < T) (B1 : Bank X1 F' b 128 3 s'.cs s'.l) (V1 : IsView X1 (vb i) b (i : Int) (s'.md i)) (L1 : IsAdder X1 (ps i) (s'.lf i) (s'.ld i) (s'.sw i))
    (hoth : ∀ j, j ≠ i → s'.md j = s.md j ∧ s'.lf j = s.lf j ∧ s'.ld j = s.ld j ∧ s'.sw j = s.sw j) (nf1 : ¬ F' (ps i)) (nf2 : ¬ F' (vb i)) (C1 : Chg (fun k => (F k ∨ k = vb i) ∨ k = ps i) (X.alloc (.cells #[.bool false] 4)) X1) (N1 : ∀ k, F' k → F k ∨ X.heap.size + 1 ≤ k)
    (d : Bool) (hY : Y = X1.setCell ⟨X.heap.size, 0, none⟩ (.bool d)) : AA m b T vb ps s' Y (inA F' m T vb ps) ∧ Goes X Y (inA F m T vb ps) (inA F' m T vb ps) := by
  obtain ⟨_, _, B0⟩ := h.bank
  have cA : Chg (fun _ => False) X (X.alloc (.cells #[.bool false] 4)) := (Chg.refl _ X).alloc _
  have c2 : Chg (fun k => k = X.heap.size) X1 Y := by rw [hY]; exact (Chg.refl (fun k => k = X.heap.size) X1).setCell (p := ⟨X.heap.size, 0, none⟩) (fun _ => rfl) _
  have cX : Chg (fun k => (F k ∨ k = vb i) ∨ k = ps i) X Y := (cA.trans C1 (fun _ _ x => x.elim) (fun _ _ x => x)).trans c2 (fun _ _ x => x) (fun i hi x => by omega)
  have nF' : ∀ z, z < X.heap.size → ¬ F z → ¬ F' z := fun z hz hf e => (N1 z e).elim hf (fun e => by omega)
  have nFx : ¬ F' X.heap.size := fun e => (N1 _ e).elim (fun e => by have := B0.lt _ e; omega) (fun e => by omega)
  have lv := fun j (hj : j < T) => (h.vw j hj).lt
  have lp := fun j (hj : j < T) => lt_of (h.ad j hj)
  refine ⟨⟨F', ⟨B1.chg c2 (fun k e e2 => nFx (by rw [← e2]; exact e)), h.mem.chg cX (fun e => ?_), fun j hj => ?_, fun j hj => ?_, nF' _ h.mem.lt h.nm, fun j hj => ?_, fun j hj => ?_, h.mv, h.vp, h.vv, h.pp⟩, rfl⟩, ⟨cX.mono (fun k _ e => ?_), fun k e => ?_⟩⟩
  · rcases e with (e | e) | e
    · exact h.nm e
    · exact (h.mv i hi).1 e
    · exact (h.mv i hi).2 e
  · by_cases hji : j = i
    · subst hji
      exact V1.chg c2 (by have := lv j hj; omega)
    · rw [(hoth j hji).1]
      exact (h.vw j hj).chg cX (fun e => by
        rcases e with (e | e) | e
        · exact h.nv j hj e
        · exact h.vv j i hj hi hji e
        · exact h.vp j i hj hi e)
  · by_cases hji : j = i
    · subst hji
      exact L1.chg c2 (by have := lp j hj; omega)
    · rw [(hoth j hji).2.1, (hoth j hji).2.2.1, (hoth j hji).2.2.2]
      exact (h.ad j hj).chg cX (fun e => by
        rcases e with (e | e) | e
        · exact h.np j hj e
        · exact h.vp i j hi hj e.symm
        · exact h.pp j i hj hi hji e)
  · by_cases hji : j = i
    · subst hji
      exact nf2
    · exact nF' _ (lv j hj) (h.nv j hj)
  · by_cases hji : j = i
    · subst hji
      exact nf1
    · exact nF' _ (lp j hj) (h.np j hj)
  · rcases e with (e | e) | e
    · exact .inl e
    · exact .inr (.inr ⟨i, hi, .inl e⟩)
    · exact .inr (.inr ⟨i, hi, .inr e⟩)
  · rcases e with e | e
    · exact (N1 k e).elim (fun e => .inl (.inl e)) (fun e => .inr (by omega))
    · exact .inl (.inr e)

set_option maxRecDepth 100000 in
theorem as_step {m b T i : Nat} {vb ps : Nat → Nat} {s : AS} (hi : i < T) (hl0 : 0 < s.lf i) (hl1 : s.lf i ≤ 1000) (hmk : s.md i < 1099511627776) (hl : s.l.length < 1099511627776) (X : World) (K : Nat → Prop) (h : AA m b T vb ps s X K) :
    Calls Try.prog 48 #[.iface 68 (.pointer (some ⟨ps i, 0, none⟩)), .pointer (some ⟨vb i, 0, none⟩)] X fun e X' => ∃ d K', e = .returned (.bool d) ∧ (∃ s', nxt s i d s' ∧ AA m b T vb ps s' X' K') ∧ Goes X X' K K' := by
  obtain ⟨F, h, rfl⟩ := h
  have cA : Chg (fun _ => False) X (X.alloc (.cells #[.bool false] 4)) := (Chg.refl _ X).alloc _
  have hsz : (X.alloc (.cells #[.bool false] 4)).heap.size = X.heap.size + 1 := by simp
  obtain ⟨_, _, B0⟩ := h.bank
  have hcell : ∀ X1, Chg (fun k => (F k ∨ k = vb i) ∨ k = ps i) (X.alloc (.cells #[.bool false] 4)) X1 → X1.heap[X.heap.size]? = some (.cells #[.bool false] 4 (0, 0)) := fun X1 C1 => (C1.block _ (by simp) (fun e => by
    rcases e with (e | e) | e
    · have := B0.lt _ e
      omega
    · have := (h.vw i hi).lt
      omega
    · have := lt_of (h.ad i hi)
      omega)).trans (heap_alloc_new _ _)
  have hpv : ps i ≠ vb i := fun e => h.vp i i hi hi e.symm
  cases hld : s.ld i with
  | false =>
    have hp := h.ad i hi
    rw [hld] at hp
    have st := s_stepOf_add ⟨ps i, 0, none⟩ (.pointer (some ⟨vb i, 0, none⟩)) (fun d X1 => d = false ∧ ∃ F' vs, Bank X1 F' b 128 3 s.cs (s.l ++ [⟨(i : Int), 1, 1, 0, 0, vs, [], cellN s.cs 1, false⟩]) ∧ IsView X1 (vb i) b (i : Int) (s.md i + 1) ∧ IsAdder X1 (ps i) (s.lf i) true (cellN s.cs 1) ∧ ¬ F' (ps i) ∧ ¬ F' (vb i) ∧ Chg (fun k => (F k ∨ k = vb i) ∨ k = ps i) (X.alloc (.cells #[.bool false] 4)) X1 ∧ ∀ k, F' k → F k ∨ X.heap.size + 1 ≤ k) X ?_
    · refine st.mono ?_
      rintro e X' ⟨d, X1, rfl, ⟨rfl, F', vs, B1, V1, L1, nf1, nf2, C1, N1⟩, _, hX'⟩
      obtain ⟨a1, a2⟩ := as_end (s' := loadS s i vs) h hi B1 (by simpa [loadS, upd_same] using V1) (by simpa [loadS, upd_same] using L1) (fun j hj => ⟨upd_other _ _ _ _ hj, rfl, upd_other _ _ _ _ hj, upd_other _ _ _ _ hj⟩) nf1 nf2 C1 N1 false hX'
      exact ⟨false, _, rfl, ⟨_, ⟨vs, .inl ⟨hld, rfl, rfl⟩⟩, a1⟩, a2⟩
    · refine (add_step_load (ps i) (s.lf i) (s.sw i) (vb i) b 128 3 (s.md i) i F s.cs s.l _ (hp.chg cA (fun h => h)) hl0 ((h.vw i hi).chg cA (fun h => h)) (h.bank.chg cA (fun _ _ h => h)) (h.nv i hi) (h.np i hi) hpv hmk hl).mono ?_
      rintro e X1 ⟨rfl, F', vs, B1, V1, L1, nf1, nf2, C1, N1⟩
      exact ⟨false, rfl, ⟨rfl, F', vs, B1, V1, L1, nf1, nf2, C1, fun k e => by have := N1 k e; rw [hsz] at this; exact this⟩, hcell X1 C1⟩
  | true =>
    have hp := h.ad i hi
    rw [hld] at hp
    have st := s_stepOf_add ⟨ps i, 0, none⟩ (.pointer (some ⟨vb i, 0, none⟩)) (fun d X1 => d = decide (s.lf i - 1 = 0) ∧ ∃ F' vs, Bank X1 F' b 128 3 (stN 128 s.cs 2 (addN (cellN s.cs 2) 1)) (s.l ++ [⟨(i : Int), 4, 2, 1, 0, vs, [], cellN s.cs 2, false⟩]) ∧ IsView X1 (vb i) b (i : Int) (s.md i + 1) ∧ IsAdder X1 (ps i) (s.lf i - 1) false (s.sw i) ∧ ¬ F' (ps i) ∧ ¬ F' (vb i) ∧ Chg (fun k => (F k ∨ k = vb i) ∨ k = ps i) (X.alloc (.cells #[.bool false] 4)) X1 ∧ ∀ k, F' k → F k ∨ X.heap.size + 1 ≤ k) X ?_
    · refine st.mono ?_
      rintro e X' ⟨d, X1, rfl, ⟨rfl, F', vs, B1, V1, L1, nf1, nf2, C1, N1⟩, _, hX'⟩
      obtain ⟨a1, a2⟩ := as_end (s' := addS s i vs) h hi B1 (by simpa [addS, upd_same] using V1) (by simpa [addS, upd_same] using L1) (fun j hj => ⟨upd_other _ _ _ _ hj, upd_other _ _ _ _ hj, upd_other _ _ _ _ hj, rfl⟩) nf1 nf2 C1 N1 _ hX'
      exact ⟨_, _, rfl, ⟨_, ⟨vs, .inr ⟨hld, rfl, rfl⟩⟩, a1⟩, a2⟩
    · refine (add_step_add (ps i) (s.lf i) (s.sw i) (vb i) b 128 3 (s.md i) i F s.cs s.l _ (hp.chg cA (fun h => h)) hl0 hl1 ((h.vw i hi).chg cA (fun h => h)) (h.bank.chg cA (fun _ _ h => h)) (h.nv i hi) (h.np i hi) hpv hmk hl).mono ?_
      rintro e X1 ⟨rfl, F', vs, B1, V1, L1, nf1, nf2, C1, N1⟩
      exact ⟨_, rfl, ⟨rfl, F', vs, B1, V1, L1, nf1, nf2, C1, fun k e => by have := N1 k e; rw [hsz] at this; exact this⟩, hcell X1 C1⟩
end Go.Proofs.Ytmckdefijcnhcac
