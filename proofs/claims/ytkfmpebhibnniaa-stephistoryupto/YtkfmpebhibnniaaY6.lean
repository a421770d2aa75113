/- The events of any run are a history, in plain words. -/
import Derived.Test.YtkfmpebhibnniaaY2
namespace Go.Proofs.Ytkfmpebhibnniaa
open Go.RowKit Go.Shelf
set_option linter.unusedVariables false

/-- How many calls of a thread there are; is its last one open? -/
def evC (l : List Ev) (t : Int) : Nat := (l.filter (fun e => decide (e.th = t) && !e.ret)).length
def evO (l : List Ev) (t : Int) : Bool := l.foldl (fun o e => if e.th = t then !e.ret else o) false
theorem evC_snoc (l : List Ev) (e : Ev) (t : Int) : evC (l ++ [e]) t = evC l t + (if e.th = t ∧ e.ret = false then 1 else 0) := by
  unfold evC
  rw [List.filter_append, List.length_append]
  congr 1
  by_cases h1 : e.th = t
  · cases h2 : e.ret <;> simp [h1, h2]
  · simp [h1]
theorem evO_snoc (l : List Ev) (e : Ev) (t : Int) : evO (l ++ [e]) t = if e.th = t then !e.ret else evO l t := by
  unfold evO
  rw [List.foldl_append]
  rfl
/-- The event e lies rightly behind the events l. -/
structure EvOk (l : List Ev) (e : Ev) : Prop where
  st : 0 ≤ e.st
  ret : e.ret = evO l e.th
  ix : e.ix = if evO l e.th = true then (evC l e.th : Int) - 1 else (evC l e.th : Int)
  prev : ∀ p, l.getLast? = some p → p.st ≤ e.st ∧ (p.st = e.st → e.ret = true ∧ p.ret = false ∧ p.th = e.th)
def HistOk (l : List Ev) : Prop := ∀ i e, l[i]? = some e → EvOk (l.take i) e
theorem HistOk.snoc {l : List Ev} {e : Ev} (h : HistOk l) (he : EvOk l e) : HistOk (l ++ [e]) := by
  intro i x hx
  by_cases hi : i < l.length
  · rw [List.getElem?_append_left hi] at hx
    rw [List.take_append_of_le_length (by omega)]
    exact h i x hx
  · have hl := (List.getElem?_eq_some_iff.1 hx).1
    simp at hl
    obtain rfl : i = l.length := by omega
    simp at hx
    subst hx
    rw [List.take_left']
    · exact he
    · rfl
structure HInv {P : Type} (c : Cfg P) : Prop where
  ok : HistOk c.evs
  cnt : ∀ t : Nat, evC c.evs (t : Int) = c.ix t + (if c.bg t = true then 1 else 0)
  opn : ∀ t : Nat, evO c.evs (t : Int) = c.bg t
  lt : ∀ e ∈ c.evs, e.st < (c.st : Int)
section
variable {P : Type} {Lo : Nat} {W0 : World} {κ : KindL P Lo W0} {most T : Nat} {cl : Nat → Nat} {c : Cfg P}
theorem last_mem {l : List Ev} {p : Ev} (h : l.getLast? = some p) : p ∈ l := List.mem_of_getLast? h
theorem HInv.go (h : HInv c) (i : Nat) : HInv (c.go κ most i).tick := by
  obtain ⟨d, hd⟩ : ∃ d, d = (c.out κ most i).done := ⟨_, rfl⟩
  obtain ⟨e1, he1⟩ : ∃ e1, e1 = (if c.bg i = true then c.evs else c.evs ++ [⟨(c.st : Int), (i : Int), (c.ix i : Int), false⟩]) := ⟨_, rfl⟩
  have key : HistOk e1 ∧ (∀ t : Nat, evC e1 (t : Int) = if t = i then c.ix i + 1 else c.ix t + (if c.bg t = true then 1 else 0)) ∧ (∀ t : Nat, evO e1 (t : Int) = if t = i then true else c.bg t) ∧ (∀ e ∈ e1, e.st ≤ (c.st : Int)) ∧ ∀ p, e1.getLast? = some p → p.st = (c.st : Int) → p.ret = false ∧ p.th = (i : Int) := by
    cases hb : c.bg i with
    | true =>
      rw [hb] at he1
      simp only [if_true] at he1
      subst he1
      refine ⟨h.ok, fun t => ?_, fun t => ?_, fun e he => by have := h.lt e he; omega, fun p hp e => by have := h.lt p (last_mem hp); omega⟩
      · rw [h.cnt t]
        by_cases e : t = i
        · subst e; rw [hb]; simp
        · rw [if_neg e]
      · rw [h.opn t]
        split
        · rename_i e; subst e; exact hb
        · rfl
    | false =>
      rw [hb] at he1
      simp only [Bool.false_eq_true, if_false] at he1
      subst he1
      refine ⟨h.ok.snoc ⟨by simp only; omega, by simp only; rw [h.opn i, hb], ?_, fun p hp => ?_⟩, fun t => ?_, fun t => ?_, fun e he => ?_, fun p hp _ => ?_⟩
      · simp only
        rw [h.opn i, hb, h.cnt i, hb]
        simp
      · have := h.lt p (last_mem hp)
        exact ⟨by simp only; omega, fun e => by simp only at e; omega⟩
      · rw [evC_snoc, h.cnt t]
        by_cases e : t = i
        · subst e; simp [hb]
        · rw [if_neg e]
          have : ¬ ((i : Int) = (t : Int) ∧ false = false) := fun z => e (by omega)
          simp only at this ⊢
          rw [if_neg this]
          rfl
      · rw [evO_snoc, h.opn t]
        by_cases e : t = i
        · subst e; simp
        · rw [if_neg e, if_neg (show ¬ (i : Int) = (t : Int) from fun z => e (by omega))]
      · rcases List.mem_append.1 he with q | q
        · have := h.lt e q; omega
        · simp at q; subst q; simp
      · rw [List.getLast?_append] at hp
        simp at hp
        subst hp
        exact ⟨rfl, rfl⟩
  obtain ⟨k1, k2, k3, k4, k5⟩ := key
  have hev : (c.go κ most i).tick.evs = e1 ++ (if d = true then [⟨(c.st : Int), (i : Int), (c.ix i : Int), true⟩] else []) := by
    show evsOf c i (c.out κ most i).done = _
    unfold evsOf
    rw [he1, hd]
  have hix : ∀ t, (c.go κ most i).tick.ix t = if t = i then (if d = true then c.ix i + 1 else c.ix i) else c.ix t := fun t => by
    show updN c.ix i _ t = _
    unfold updN
    rw [hd]
  have hbg : ∀ t, (c.go κ most i).tick.bg t = if t = i then !d else c.bg t := fun t => by
    show updN c.bg i _ t = _
    unfold updN
    rw [hd]
  have hst : (c.go κ most i).tick.st = c.st + 1 := rfl
  cases d with
  | true =>
    simp only [if_true] at hev hix
    have hok : HistOk (e1 ++ [⟨(c.st : Int), (i : Int), (c.ix i : Int), true⟩]) := by
      refine k1.snoc ⟨by simp only; omega, by simp only; rw [k3 i]; simp, ?_, fun p hp => ?_⟩
      · simp only
        rw [k3 i, k2 i]
        simp
      · have a1 := k4 p (last_mem hp)
        exact ⟨a1, fun e => ⟨rfl, k5 p hp e⟩⟩
    refine ⟨by rw [hev]; exact hok, fun t => ?_, fun t => ?_, fun e he => ?_⟩
    · rw [hev, evC_snoc, k2 t, hix t, hbg t]
      by_cases e : t = i
      · subst e; simp
      · simp [e]
    · rw [hev, evO_snoc, k3 t, hbg t]
      by_cases e : t = i
      · subst e; simp
      · rw [if_neg e, if_neg e, if_neg (show ¬ (i : Int) = (t : Int) from fun z => e (by omega))]
    · rw [hev] at he
      rw [hst]
      rcases List.mem_append.1 he with q | q
      · have := k4 e q; omega
      · simp at q; subst q; simp only; omega
  | false =>
    simp only [Bool.false_eq_true, if_false, List.append_nil] at hev hix
    refine ⟨by rw [hev]; exact k1, fun t => ?_, fun t => ?_, fun e he => ?_⟩
    · rw [hev, k2 t, hix t, hbg t]
      by_cases e : t = i
      · subst e; simp
      · simp [e]
    · rw [hev, k3 t, hbg t]
      rfl
    · rw [hev] at he
      rw [hst]
      have := k4 e he; omega
theorem HInv.tick (h : HInv c) : HInv c.tick := ⟨h.ok, h.cnt, h.opn, fun e he => by have := h.lt e he; show e.st < ((c.st + 1 : Nat) : Int); omega⟩
theorem HInv.pick (h : HInv c) (th : Int) : HInv (c.pick κ most T cl th) := by
  unfold Cfg.pick
  split
  · exact h.go _
  · exact h.tick
theorem HInv.run (h : HInv c) (l : List Int) : HInv (c.run κ most T cl l) := by
  unfold Cfg.run
  induction l generalizing c with
  | nil => exact h
  | cons th r ih => exact ih (h.pick th)
end
end Go.Proofs.Ytkfmpebhibnniaa
