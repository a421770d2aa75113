/- Runs of procs that lean on what lies low: all of them, on one memory; a pick, with its events. -/
import Derived.Test.YtkfmpebhibnniaaY1
import Derived.Test.YtkfmpebhibnniaaSPick
namespace Go.Proofs.Ytkfmpebhibnniaa
open Go.RowKit Go.Shelf
set_option linter.unusedVariables false

def updN {α : Type} (f : Nat → α) (i : Nat) (x : α) : Nat → α := fun j => if j = i then x else f j
theorem updN_same {α : Type} (f : Nat → α) (i : Nat) (x : α) : updN f i x i = x := if_pos rfl
theorem updN_other {α : Type} (f : Nat → α) (i j : Nat) (x : α) (h : j ≠ i) : updN f i x j = f j := if_neg h
/-- What runs: the cells that were handed out, the cells, the trace, each thread's call, each call's proc. -/
structure Cfg (P : Type) where
  next : Nat
  cs : List Nat
  t : List Acc
  ix : Nat → Nat
  σ : Nat → Nat → P
  st : Nat
  bg : Nat → Bool
  evs : List Ev
  ats : List Int
section
variable {P : Type} {Lo : Nat} {W0 : World} (κ : KindL P Lo W0) (most T : Nat) (cl : Nat → Nat)
def Cfg.out (c : Cfg P) (i : Nat) : Out P := κ.stp (i : Int) most c.next c.cs (c.σ i (c.ix i))
def evsOf (c : Cfg P) (i : Nat) (d : Bool) : List Ev := (if c.bg i = true then c.evs else c.evs ++ [⟨(c.st : Int), (i : Int), (c.ix i : Int), false⟩]) ++ (if d = true then [⟨(c.st : Int), (i : Int), (c.ix i : Int), true⟩] else [])
def Cfg.go (c : Cfg P) (i : Nat) : Cfg P := ⟨(c.out κ most i).next, (c.out κ most i).cs, c.t ++ (c.out κ most i).acc, updN c.ix i (if (c.out κ most i).done then c.ix i + 1 else c.ix i), updN c.σ i (updN (c.σ i) (c.ix i) (c.out κ most i).s), c.st, updN c.bg i (!(c.out κ most i).done), evsOf c i (c.out κ most i).done, extN (extN c.ats c.t.length (-1)) (c.t ++ (c.out κ most i).acc).length (c.st : Int)⟩
def Cfg.tick (c : Cfg P) : Cfg P := { c with st := c.st + 1 }
def Cfg.can (c : Cfg P) (th : Int) : Prop := 0 ≤ th ∧ th < (T : Int) ∧ c.ix th.toNat < cl th.toNat
instance (c : Cfg P) (th : Int) : Decidable (Cfg.can T cl c th) := by unfold Cfg.can; exact inferInstance
def Cfg.pick (c : Cfg P) (th : Int) : Cfg P := if Cfg.can T cl c th then (c.go κ most th.toNat).tick else c.tick
def Cfg.run (c : Cfg P) (picks : List Int) : Cfg P := picks.foldl (fun c th => c.pick κ most T cl th) c
end
inductive Tag where
  | none : Tag
  | mem : Tag
  | main : Tag
  | view : Nat → Tag
  | proc : Nat → Nat → Tag
/-- The memory, its views and all procs, with what they have of their own. -/
structure MAt {P : Type} {Lo : Nat} {W0 : World} (κ : KindL P Lo W0) (most m b T : Nat) (cl : Nat → Nat) (vb : Nat → Nat) (pv : Nat → Nat → Value) (n : Nat) (c : Cfg P) (X : World) (K F : Nat → Prop) (D : Nat → Nat → Nat → Prop) (md : Nat → Nat) (tg : Nat → Tag) : Prop where
  bank : ∃ l, Bank X F b most c.next c.cs l ∧ l.map Acc.bare = c.t
  mem : IsMem X m b
  views : ∀ i, i < T → IsView X (vb i) b (i : Int) (md i) ∧ md i ≤ n
  procs : ∀ i j, i < T → j < cl i → κ.H X (D i j) (pv i j) (c.σ i j)
  oks : ∀ i j, i < T → j < cl i → c.ix i ≤ j → κ.ok n (c.σ i j)
  inF : ∀ k, F k → K k ∧ tg k = .mem
  inM : K m ∧ tg m = .main
  inV : ∀ i, i < T → K (vb i) ∧ tg (vb i) = .view i
  inD : ∀ i j k, i < T → j < cl i → D i j k → K k ∧ tg k = .proc i j
  lt : ∀ k, K k → k < X.heap.size
  tn : c.t.length ≤ n + 16000000
  mo : most ≤ 4194304
  lowK : ∀ k, k < Lo → K k
  low : ∀ k, k < Lo → X.heap[k]? = W0.heap[k]?
  hi : (∀ k, F k → Lo ≤ k) ∧ Lo ≤ m ∧ ∀ i, i < T → Lo ≤ vb i
def MA {P : Type} {Lo : Nat} {W0 : World} (κ : KindL P Lo W0) (most m b T : Nat) (cl : Nat → Nat) (vb : Nat → Nat) (pv : Nat → Nat → Value) (n : Nat) (c : Cfg P) (X : World) (K : Nat → Prop) : Prop := ∃ F D md tg, MAt κ most m b T cl vb pv n c X K F D md tg
section
variable {P : Type} {Lo : Nat} {W0 : World} {κ : KindL P Lo W0} {most m b T : Nat} {cl : Nat → Nat} {vb : Nat → Nat} {pv : Nat → Nat → Value} {n : Nat} {c : Cfg P} {X : World} {K : Nat → Prop}
theorem MA.keep {Y : World} (h : MA κ most m b T cl vb pv n c X K) (hs : X.heap.size ≤ Y.heap.size) (hk : ∀ k, K k → Y.heap[k]? = X.heap[k]?) : MA κ most m b T cl vb pv n c Y K := by
  obtain ⟨F, D, md, tg, h⟩ := h
  obtain ⟨l, B, L⟩ := h.bank
  exact ⟨F, D, md, tg, ⟨l, B.kept hs (fun k e => hk k (h.inF k e).1), L⟩, (hk m h.inM.1).trans h.mem, fun i hi => ⟨(hk _ (h.inV i hi).1).trans (h.views i hi).1, (h.views i hi).2⟩, fun i j hi hj => κ.kept (h.procs i j hi hj) (fun k e => hk k (h.inD i j k hi hj e).1), h.oks, h.inF, h.inM, h.inV, h.inD, fun k e => Nat.lt_of_lt_of_le (h.lt k e) hs, h.tn, h.mo, h.lowK, fun k e => (hk k (h.lowK k e)).trans (h.low k e), h.hi⟩
theorem MA.ltK (h : MA κ most m b T cl vb pv n c X K) (k : Nat) (hk : K k) : k < X.heap.size := by
  obtain ⟨F, D, md, tg, h⟩ := h
  exact h.lt k hk
theorem MA.memK (h : MA κ most m b T cl vb pv n c X K) : ∃ b F most next cs l, IsMem X m b ∧ Bank X F b most next cs l ∧ l.length = c.t.length ∧ (∀ k, F k → K k) ∧ K m := by
  obtain ⟨F, D, md, tg, h⟩ := h
  obtain ⟨l, B, L⟩ := h.bank
  exact ⟨b, F, most, _, _, l, h.mem, B, by rw [← L]; simp, fun k e => (h.inF k e).1, h.inM.1⟩
theorem MA.more (h : MA κ most m b T cl vb pv n c X K) {n' : Nat} (hn : n ≤ n') : MA κ most m b T cl vb pv n' c X K := by
  obtain ⟨F, D, md, tg, h⟩ := h
  exact ⟨F, D, md, tg, { h with views := fun i hi => ⟨(h.views i hi).1, Nat.le_trans (h.views i hi).2 hn⟩, tn := by have := h.tn; omega, oks := fun i j hi hj hle => κ.okM n n' _ hn (h.oks i j hi hj hle) }⟩
/-- A step of a thread's call. -/
theorem MA.step (h : MA κ most m b T cl vb pv n c X K) (i : Nat) (hi : i < T) (hj : c.ix i < cl i) (hn : n < 500000000) :
    Calls Try.prog 37 #[pv i (c.ix i), .pointer (some ⟨vb i, 0, none⟩)] X fun e Y => e = .returned (.bool (c.out κ most i).done) ∧ ∃ K', MA κ most m b T cl vb pv (n + 1) (c.go κ most i) Y K' ∧ Goes X Y K K' := by
  obtain ⟨F, D, md, tg, h⟩ := h
  obtain ⟨l, B, L⟩ := h.bank
  obtain ⟨V, hmd⟩ := h.views i hi
  have hp := h.procs i (c.ix i) hi hj
  have tn := h.tn
  have tV := (h.inV i hi).2
  have nF : ∀ k, tg k ≠ .mem → ¬ F k := fun k e x => e (h.inF k x).2
  have A0 : AS X X F (D i (c.ix i)) F (D i (c.ix i)) b (vb i) most c.next (i : Int) (md i) c.cs c.t := by
    refine ⟨⟨l, B, L⟩, V, nF _ (by rw [tV]; simp), fun k e => ?_, Chg.refl _ _, fun _ e => .inl e, fun _ e => .inl e⟩
    have tk := (h.inD i _ k hi hj e).2
    exact ⟨nF k (by rw [tk]; simp), fun x => by rw [x, tV] at tk; simp at tk, κ.lt hp e⟩
  have hLo : Lo ≤ X.heap.size := by
    rcases Nat.eq_zero_or_pos Lo with e | e
    · omega
    · have := h.lt (Lo - 1) (h.lowK (Lo - 1) (by omega)); omega
  refine (κ.step n X F (D i (c.ix i)) b (vb i) most c.next (i : Int) (md i) c.cs c.t (pv i (c.ix i)) (c.σ i (c.ix i)) A0 hp (h.oks i _ hi hj (Nat.le_refl _)) (by omega) (by omega) (by omega) h.low h.hi.1 (h.hi.2.2 i hi) hLo).mono ?_
  rintro e Y ⟨rfl, F', D', md', A, hmd', hH⟩
  have sz := A.chg.size
  have old : ∀ k, K k → tg k ≠ .mem → tg k ≠ .view i → tg k ≠ .proc i (c.ix i) → Y.heap[k]? = X.heap[k]? := fun k hk h1 h2 h3 => A.chg.block k (h.lt k hk) (fun x => by
    rcases x with x | x | x
    · exact h1 (h.inF k x).2
    · rw [x] at h2; exact h2 tV
    · exact h3 (h.inD i _ k hi hj x).2)
  obtain ⟨l', B', L'⟩ := A.bank
  refine ⟨rfl, fun k => k < Y.heap.size ∧ (K k ∨ X.heap.size ≤ k), ⟨F', updN D i (updN (D i) (c.ix i) D'), updN md i md', fun k => open Classical in if k < X.heap.size then tg k else if F' k then .mem else .proc i (c.ix i), ?_⟩, ⟨A.chg.mono (fun k hk x => ?_), fun k e => e.2⟩⟩
  · refine ⟨⟨l', B', L'⟩, (old m h.inM.1 (by rw [h.inM.2]; simp) (by rw [h.inM.2]; simp) (by rw [h.inM.2]; simp)).trans h.mem, fun j hj2 => ?_, fun j q hj2 hq => ?_, fun j q hj2 hq hle => ?_, fun k e => ?_, ⟨⟨Nat.lt_of_lt_of_le (h.lt m h.inM.1) sz, .inl h.inM.1⟩, by simp only [if_pos (h.lt m h.inM.1)]; exact h.inM.2⟩, fun j hj2 => ⟨⟨Nat.lt_of_lt_of_le (h.lt _ (h.inV j hj2).1) sz, .inl (h.inV j hj2).1⟩, by simp only [if_pos (h.lt _ (h.inV j hj2).1)]; exact (h.inV j hj2).2⟩, fun j q k hj2 hq e => ?_, fun k e => e.1, ?_, h.mo, fun k e => ⟨by omega, .inl (h.lowK k e)⟩, fun k e => (A.chg.block k (by omega) (fun x => by
      rcases x with x | x | x
      · have := h.hi.1 k x; omega
      · have := h.hi.2.2 i hi; omega
      · have := κ.lo hp x; omega)).trans (h.low k e), ⟨fun k e => (A.newF k e).elim (h.hi.1 k) (fun q => by omega), h.hi.2⟩⟩
    · by_cases e : j = i
      · subst e
        rw [updN_same]
        exact ⟨A.view, by omega⟩
      · rw [updN_other _ _ _ _ e]
        have tj := (h.inV j hj2).2
        exact ⟨(old _ (h.inV j hj2).1 (by rw [tj]; simp) (by rw [tj]; simp; exact e) (by rw [tj]; simp)).trans (h.views j hj2).1, by have := (h.views j hj2).2; omega⟩
    · show κ.H Y (updN D i (updN (D i) (c.ix i) D') j q) (pv j q) (updN c.σ i (updN (c.σ i) (c.ix i) (c.out κ most i).s) j q)
      by_cases e : j = i
      · subst e
        rw [updN_same, updN_same]
        by_cases e2 : q = c.ix j
        · subst e2
          rw [updN_same, updN_same]
          exact hH
        · rw [updN_other _ _ _ _ e2, updN_other _ _ _ _ e2]
          exact κ.kept (h.procs j q hj2 hq) (fun k hk => by
            have tk := (h.inD j q k hj2 hq hk)
            exact old k tk.1 (by rw [tk.2]; simp) (by rw [tk.2]; simp) (by rw [tk.2]; simp; exact e2))
      · rw [updN_other _ _ _ _ e, updN_other _ _ _ _ e]
        exact κ.kept (h.procs j q hj2 hq) (fun k hk => by
          have tk := (h.inD j q k hj2 hq hk)
          exact old k tk.1 (by rw [tk.2]; simp) (by rw [tk.2]; simp) (by rw [tk.2]; simp; exact fun z => absurd z e))
    · show κ.ok (n + 1) (updN c.σ i (updN (c.σ i) (c.ix i) (c.out κ most i).s) j q)
      have hle' : updN c.ix i (if (c.out κ most i).done then c.ix i + 1 else c.ix i) j ≤ q := hle
      by_cases e : j = i
      · subst e
        rw [updN_same] at hle' ⊢
        by_cases e2 : q = c.ix j
        · subst e2
          rw [updN_same]
          exact κ.okS n _ _ _ _ _ (h.oks j _ hj2 hq (Nat.le_refl _)) B.cells h.mo (by
            have hle2 : (if (c.out κ most j).done then c.ix j + 1 else c.ix j) ≤ c.ix j := hle'
            cases hd : (c.out κ most j).done
            · exact hd
            · rw [hd] at hle2; simp at hle2; omega)
        · rw [updN_other _ _ _ _ e2]
          exact κ.okM n (n + 1) _ (Nat.le_succ n) (h.oks j q hj2 hq (by split at hle' <;> omega))
      · rw [updN_other _ _ _ _ e] at hle' ⊢
        exact κ.okM n (n + 1) _ (Nat.le_succ n) (h.oks j q hj2 hq hle')
    · refine ⟨⟨B'.ltF k e, (A.newF k e).elim (fun x => .inl (h.inF k x).1) .inr⟩, ?_⟩
      by_cases lt : k < X.heap.size
      · simp only [if_pos lt]
        rcases A.newF k e with x | x
        · exact (h.inF k x).2
        · omega
      · simp only [if_neg lt, if_pos e]
    · have e' : updN D i (updN (D i) (c.ix i) D') j q k := e
      by_cases ej : j = i
      · subst ej
        rw [updN_same] at e'
        by_cases e2 : q = c.ix j
        · subst e2
          rw [updN_same] at e'
          have dd := A.dis k e'
          refine ⟨⟨dd.2.2, (A.newD k e').elim (fun x => .inl (h.inD j _ k hj2 hq x).1) .inr⟩, ?_⟩
          by_cases lt : k < X.heap.size
          · simp only [if_pos lt]
            rcases A.newD k e' with x | x
            · exact (h.inD j _ k hj2 hq x).2
            · omega
          · simp only [if_neg lt, if_neg dd.1]
        · rw [updN_other _ _ _ _ e2] at e'
          have z := h.inD j q k hj2 hq e'
          exact ⟨⟨Nat.lt_of_lt_of_le (h.lt k z.1) sz, .inl z.1⟩, by simp only [if_pos (h.lt k z.1)]; exact z.2⟩
      · rw [updN_other _ _ _ _ ej] at e'
        have z := h.inD j q k hj2 hq e'
        exact ⟨⟨Nat.lt_of_lt_of_le (h.lt k z.1) sz, .inl z.1⟩, by simp only [if_pos (h.lt k z.1)]; exact z.2⟩
    · have fw := κ.few (i : Int) most c.next c.cs (c.σ i (c.ix i))
      show (c.t ++ (c.out κ most i).acc).length ≤ n + 1 + 16000000
      rw [List.length_append]
      have fw' : (c.out κ most i).acc.length ≤ 1 := fw
      omega
  · rcases x with x | x | x
    · exact (h.inF k x).1
    · rw [x]; exact (h.inV i hi).1
    · exact (h.inD i _ k hi hj x).1
end
end Go.Proofs.Ytkfmpebhibnniaa
