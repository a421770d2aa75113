/- Of what Cas, Takes, Cuts and Ats do beside each other: what stays of the versions (pure). -/
import Derived.Test.YtbjebnkfecjpnaaGl
namespace Go.Proofs.Ytbjebnkfecjpnaa
open Go.RowKit Go.Shelf
set_option linter.unusedVariables false

theorem alN_cellG {most next : Nat} {cs vals : List Nat} (h : alOk most next vals.length) (i : Nat) : cellN (alN most next cs vals) i = if next ≤ i ∧ i < next + vals.length then cellN vals (i - next) else cellN cs i := by
  unfold alN
  rw [if_pos h, spliceN_cell _ _ _ (by rw [padN_length]; omega), padN_cell]
theorem casN_cell (most : Nat) (cs : List Nat) (a old now j : Nat) : cellN (casN most cs a old now) j = cellN cs j ∨ (j = a ∧ cellN (casN most cs a old now) j = now) := by
  unfold casN
  split
  · rw [putN_cell]
    split
    · exact .inr ⟨by assumption, rfl⟩
    · exact .inl rfl
  · exact .inl rfl
def vrsV (l : List Acc) : List Nat := (l.filter (fun x => decide (x.kind = 5 ∧ x.addr ≠ 0))).map Acc.addr
theorem vrsV_app (a b : List Acc) : vrsV (a ++ b) = vrsV a ++ vrsV b := by simp [vrsV]
def isV (vs : List Nat) (a : Nat) : Prop := a = 0 ∨ a ∈ vs
theorem isV.mono {vs ws : List Nat} {a : Nat} (h : isV vs a) : isV (vs ++ ws) a := h.elim .inl (fun e => .inr (List.mem_append_left _ e))
structure PI (next : Nat) (cs vs : List Nat) : Prop where
  obj : ∀ o, o = 2 ∨ o = 3 → isV vs (cellN cs o)
  lo : ∀ a ∈ vs, 4 ≤ a ∧ a + 3 ≤ next
  lnk : ∀ a ∈ vs, isV vs (cellN cs (a + 2)) ∧ cellN cs (a + 2) < a
  apart : ∀ a ∈ vs, ∀ b ∈ vs, a < b → a + 3 ≤ b
  nx : 4 ≤ next ∧ next ≤ 4096
theorem PI.lt {next : Nat} {cs vs : List Nat} (h : PI next cs vs) {a : Nat} (ha : isV vs a) : a < 4096 := by
  have := h.nx
  rcases ha with e | e
  · omega
  · have := h.lo a e; omega
theorem PI.write {next : Nat} {cs cs' vs : List Nat} (h : PI next cs vs) (hc : ∀ j, cellN cs' j = cellN cs j ∨ j = 1 ∨ ∃ v ∈ vs, j = v + 1) : PI next cs' vs := by
  refine ⟨fun o ho => ?_, h.lo, fun a ha => ?_, h.apart, h.nx⟩
  · rcases hc o with e | e | ⟨v, hv, e⟩
    · rw [e]; exact h.obj o ho
    · omega
    · have := h.lo v hv; omega
  · rcases hc (a + 2) with e | e | ⟨v, hv, e⟩
    · rw [e]; exact h.lnk a ha
    · omega
    · have := h.apart a ha v hv (by omega); omega
theorem PI.tell {next : Nat} {cs vs : List Nat} {most ver pos st : Nat} (h : PI next cs vs) (hv : isV vs ver) : PI next (tlC most cs ver pos st) vs := by
  unfold tlC
  split
  · refine h.write (fun j => ?_)
    rcases casN_cell most cs (verS ver) 0 st j with e | ⟨e, _⟩
    · exact .inl e
    · have lt := h.lt hv
      have e1 : verS ver = ver + 1 := by unfold verS; omega
      rcases hv with z | z
      · exact .inr (.inl (by omega))
      · exact .inr (.inr ⟨ver, z, by omega⟩)
  · exact h
theorem PI.cam {next : Nat} {cs vs : List Nat} {most old now : Nat} (h : PI next cs vs) : PI next (casN most cs 1 old now) vs :=
  h.write (fun j => (casN_cell most cs 1 old now j).elim .inl (fun e => .inr (.inl e.1)))
theorem PI.swap {next : Nat} {cs vs : List Nat} {most old now o : Nat} (h : PI next cs vs) (ho : o = 2 ∨ o = 3) (hn : now ∈ vs) : PI next (casN most cs o old now) vs := by
  refine ⟨fun k hk => ?_, h.lo, fun a ha => ?_, h.apart, h.nx⟩
  · rcases casN_cell most cs o old now k with e | ⟨_, e⟩
    · rw [e]; exact h.obj k hk
    · rw [e]; exact .inr hn
  · rcases casN_cell most cs o old now (a + 2) with e | ⟨e, _⟩
    · rw [e]; exact h.lnk a ha
    · have := h.lo a ha; omega
theorem PI.store {next : Nat} {cs vs : List Nat} {most k x : Nat} (h : PI next cs vs) (hk : k ∈ vs) (hx : isV vs x) (hl : x < k) : PI next (stN most cs (k + 2) x) vs := by
  have lk := h.lo k hk
  refine ⟨fun o ho => ?_, h.lo, fun a ha => ?_, h.apart, h.nx⟩
  · rw [stN_cell, if_neg (by omega)]; exact h.obj o ho
  · rw [stN_cell]
    split
    · next e =>
      have e1 : a = k := by omega
      subst e1
      exact ⟨hx, hl⟩
    · exact h.lnk a ha
theorem PI.grow {next : Nat} {cs vs : List Nat} {now head : Nat} (h : PI next cs vs) (hh : isV vs head) (ok : alOk 4096 next 3) : PI (next + 3) (alN 4096 next cs [now, 0, head]) (vs ++ [next]) := by
  have ok' : alOk 4096 next [now, 0, head].length := ok
  have hn := h.nx
  have ok2 : 3 ≤ 4096 - next := ok.2
  have c : ∀ i, i < next → cellN (alN 4096 next cs [now, 0, head]) i = cellN cs i := fun i hi => by rw [alN_cellG ok', if_neg (by omega)]
  refine ⟨fun o ho => ?_, fun a ha => ?_, fun a ha => ?_, fun a ha b hb hl => ?_, by omega⟩
  · rw [c o (by omega)]; exact (h.obj o ho).mono
  · rcases List.mem_append.1 ha with e | e
    · have := h.lo a e; omega
    · simp at e; omega
  · rcases List.mem_append.1 ha with e | e
    · have := h.lo a e
      rw [c _ (by omega)]
      exact ⟨(h.lnk a e).1.mono, (h.lnk a e).2⟩
    · simp at e
      subst e
      rw [alN_cellG ok', if_pos (by simp), show a + 2 - a = 2 by omega]
      show isV _ head ∧ head < a
      refine ⟨hh.mono, ?_⟩
      rcases hh with z | z
      · omega
      · have := h.lo head z; omega
  · rcases List.mem_append.1 ha with e | e <;> rcases List.mem_append.1 hb with e' | e'
    · exact h.apart a e b e' hl
    · simp at e'
      have := h.lo a e; omega
    · simp at e
      have := h.lo b e'; omega
    · simp at e e'; omega

abbrev LP := CasP ⊕ (TkS ⊕ (CutP ⊕ AtP))
def leavesK : Kind LP := casK.or (takeK.or (cutK.or atK))
def CasP.pp (vs : List Nat) (s : CasP) : Prop := s.cam = 1 ∧ (s.obj = 2 ∨ s.obj = 3) ∧ isV vs s.s.r.f.head ∧ isV vs s.s.r.f.ver ∧ (s.s.nx = 2 → s.s.made ∈ vs)
def CutP.pp (vs : List Nat) (s : CutP) : Prop := (s.s.obj = 2 ∨ s.s.obj = 3) ∧ (1 ≤ s.s.nx → s.s.nx ≤ 6 → s.s.kept ∈ vs) ∧ (s.s.nx = 4 ∨ s.s.nx = 5 → s.s.asked ∈ vs ∧ s.s.asked < s.s.kept) ∧ (s.s.nx = 6 → isV vs s.s.asked ∧ s.s.asked < s.s.kept)
def AtP.pp (vs : List Nat) (s : AtP) : Prop := s.cam = 1 ∧ (s.obj = 2 ∨ s.obj = 3) ∧ isV vs s.s.f.ver ∧ (s.s.nx = 0 → isV vs s.s.f.head)
def LP.pp (vs : List Nat) : LP → Prop
  | .inl s => s.pp vs
  | .inr (.inl s) => s.cell = 1
  | .inr (.inr (.inl s)) => s.pp vs
  | .inr (.inr (.inr s)) => s.pp vs
theorem LP.pp.mono {vs ws : List Nat} {s : LP} (h : LP.pp vs s) : LP.pp (vs ++ ws) s := by
  have m : ∀ a, a ∈ vs → a ∈ vs ++ ws := fun a e => List.mem_append_left _ e
  rcases s with s | s | s | s
  · exact ⟨h.1, h.2.1, h.2.2.1.mono, h.2.2.2.1.mono, fun e => m _ (h.2.2.2.2 e)⟩
  · exact h
  · exact ⟨h.1, fun a b => m _ (h.2.1 a b), fun e => ⟨m _ (h.2.2.1 e).1, (h.2.2.1 e).2⟩, fun e => ⟨(h.2.2.2 e).1.mono, (h.2.2.2 e).2⟩⟩
  · exact ⟨h.1, h.2.1, h.2.2.1.mono, fun e => (h.2.2.2 e).mono⟩
/-- What a step leaves: its allocations are versions, its stores lead to older versions. -/
structure Fine (vs : List Nat) (l : List Acc) : Prop where
  st : ∀ x ∈ l, x.kind = 2 → isV vs x.a ∧ (∃ y ∈ vs, y + 2 = x.addr) ∧ x.a < x.addr
  vl : ∀ x ∈ l, x.vals.length ≤ 3
theorem fine_ld (vs : List Nat) (th : Int) (cs : List Nat) (a : Nat) : Fine vs [ldA th cs a] ∧ vrsV [ldA th cs a] = [] := ⟨⟨fun x hx e => by simp at hx; subst hx; simp [ldA] at e, fun x hx => by simp at hx; subst hx; simp [ldA]⟩, by simp [vrsV, ldA]⟩
theorem fine_cs (vs : List Nat) (th : Int) (most : Nat) (cs : List Nat) (a o n : Nat) : Fine vs [csA th most cs a o n] ∧ vrsV [csA th most cs a o n] = [] := ⟨⟨fun x hx e => by simp at hx; subst hx; simp [csA] at e, fun x hx => by simp at hx; subst hx; simp [csA]⟩, by simp [vrsV, csA]⟩
theorem fine_tl (vs : List Nat) (th : Int) (most : Nat) (cs : List Nat) (cam ver pos st : Nat) : Fine vs [tlA th most cs cam ver pos st] ∧ vrsV [tlA th most cs cam ver pos st] = [] := by
  unfold tlA
  split
  · exact fine_ld _ _ _ _
  · split
    · exact fine_ld _ _ _ _
    · exact fine_cs _ _ _ _ _ _ _
/-- A step of a finder. -/
theorem find_pi {next : Nat} {cs vs : List Nat} {th : Int} {obj : Nat} {s : VS} (h : PI next cs vs) (ho : obj = 2 ∨ obj = 3) (hh : isV vs s.head) (hv : isV vs s.ver) (o : Out VS) (e : fdO th 4096 next cs 1 obj s = o) :
    o.next = next ∧ PI next o.cs vs ∧ Fine vs o.acc ∧ vrsV o.acc = [] ∧ isV vs o.s.head ∧ isV vs o.s.ver := by
  subst e
  unfold fdO
  split
  · exact ⟨rfl, h, (fine_ld _ _ _ _).1, (fine_ld vs _ _ _).2, h.obj obj ho, h.obj obj ho⟩
  · exact ⟨rfl, h.tell hv, (fine_tl _ _ _ _ _ _ _ _).1, (fine_tl vs _ _ _ _ _ _ _).2, hh, hv⟩
theorem read_pi {next : Nat} {cs vs : List Nat} {th : Int} {obj : Nat} {s : RS} (h : PI next cs vs) (ho : obj = 2 ∨ obj = 3) (hh : isV vs s.f.head) (hv : isV vs s.f.ver) (o : Out RS) (e : rdO th 4096 next cs 1 obj s = o) :
    o.next = next ∧ PI next o.cs vs ∧ Fine vs o.acc ∧ vrsV o.acc = [] ∧ isV vs o.s.f.head ∧ isV vs o.s.f.ver := by
  subst e
  unfold rdO
  split
  · exact find_pi h ho hh hv _ rfl
  · exact ⟨rfl, h, (fine_ld _ _ _ _).1, (fine_ld vs _ _ _).2, hh, hv⟩
theorem cas_pi {next : Nat} {cs vs : List Nat} {th : Int} {s : CasP} (h : PI next cs vs) (hp : s.pp vs) (o : Out CasS) (e : casO th 4096 next cs s.cam s.obj s.s = o) :
    PI o.next o.cs (vs ++ vrsV o.acc) ∧ Fine vs o.acc ∧ CasP.pp (vs ++ vrsV o.acc) ⟨s.cam, s.obj, o.s⟩ := by
  obtain ⟨hc, ho, hh, hv, hm⟩ := hp
  rw [hc] at e
  subst e
  unfold casO
  by_cases h0 : s.s.nx = 0
  · simp only [if_pos h0]
    obtain ⟨q, hq⟩ : ∃ q, rdO th 4096 next cs 1 s.obj s.s.r = q := ⟨_, rfl⟩
    obtain ⟨e1, e2, e3, e4, e5, e6⟩ := read_pi h ho hh hv q hq
    rw [hq]
    split
    · simp only [e1, e4, List.append_nil]
      refine ⟨e2, e3, hc, ho, ?_⟩
      unfold CasS.comp
      split
      · exact ⟨e5, e6, fun z => by simp at z⟩
      · exact ⟨e5, e6, fun z => by simp at z⟩
    · simp only [e1, e4, List.append_nil]
      exact ⟨e2, e3, hc, ho, e5, e6, fun z => by simp only at z; omega⟩
  · simp only [if_neg h0]
    by_cases h1 : s.s.nx = 1
    · simp only [if_pos h1]
      by_cases ok : alOk 4096 next 3
      · have e1 : alAt 4096 next 3 = next := if_pos ok
        have e2 : alNext 4096 next 3 = next + 3 := if_pos ok
        have nz : next ≠ 0 := by have := h.nx; omega
        have e3 : vrsV [alA th 4096 next [s.s.now, 0, s.s.r.f.head]] = [next] := by
          simp only [vrsV, alA, List.length_cons, List.length_nil, Nat.zero_add, e1]
          simp [nz]
        rw [e3, e1, e2]
        refine ⟨h.grow hh ok, ⟨fun x hx e => by simp at hx; subst hx; simp [alA] at e, fun x hx => by simp at hx; subst hx; simp [alA]⟩, hc, ho, hh.mono, hv.mono, fun _ => ?_⟩
        simp [CasS.grown]
      · have e1 : alAt 4096 next 3 = 0 := if_neg ok
        have e2 : alNext 4096 next 3 = next := if_neg ok
        have e4 : alN 4096 next cs [s.s.now, 0, s.s.r.f.head] = cs := if_neg ok
        have e3 : vrsV [alA th 4096 next [s.s.now, 0, s.s.r.f.head]] = [] := by
          simp only [vrsV, alA, List.length_cons, List.length_nil, Nat.zero_add, e1]
          simp
        rw [e3, e1, e2, e4, List.append_nil]
        exact ⟨h, ⟨fun x hx e => by simp at hx; subst hx; simp [alA] at e, fun x hx => by simp at hx; subst hx; simp [alA]⟩, hc, ho, hh, hv, fun z => by simp [CasS.grown] at z⟩
    · simp only [if_neg h1]
      by_cases h2 : s.s.nx = 2
      · simp only [if_pos h2, (fine_cs vs th 4096 cs s.obj s.s.r.f.head s.s.made).2, List.append_nil]
        refine ⟨h.swap ho (hm h2), (fine_cs _ _ _ _ _ _ _).1, hc, ho, ?_⟩
        split
        · exact ⟨hh, .inr (hm h2), fun z => by simp [CasS.aim] at z⟩
        · exact ⟨hh, hv, fun z => by simp at z⟩
      · simp only [if_neg h2]
        by_cases h3 : s.s.nx = 3
        · simp only [if_pos h3, (fine_ld vs th cs s.obj).2, List.append_nil]
          exact ⟨h, (fine_ld _ _ _ _).1, hc, ho, hh, h.obj s.obj ho, fun z => by simp [CasS.aim] at z⟩
        · simp only [if_neg h3, (fine_tl vs th 4096 cs 1 s.s.r.f.ver s.s.r.f.pos s.s.r.f.st).2, List.append_nil]
          exact ⟨h.tell hv, (fine_tl _ _ _ _ _ _ _ _).1, hc, ho, hh, hv, fun z => by simp only [CasS.told] at z; split at z <;> omega⟩
theorem at_pi {next : Nat} {cs vs : List Nat} {th : Int} {s : AtP} (h : PI next cs vs) (hp : s.pp vs) (o : Out AtS) (e : atO th 4096 next cs s.cam s.obj s.s = o) :
    PI o.next o.cs (vs ++ vrsV o.acc) ∧ Fine vs o.acc ∧ AtP.pp (vs ++ vrsV o.acc) ⟨s.cam, s.obj, o.s⟩ := by
  obtain ⟨hc, ho, hv, hd⟩ := hp
  rw [hc] at e
  subst e
  unfold atO
  by_cases h0 : s.s.nx = 0
  · simp only [if_pos h0]
    obtain ⟨q, hq⟩ : ∃ q, fdO th 4096 next cs 1 s.obj s.s.f = q := ⟨_, rfl⟩
    obtain ⟨e1, e2, e3, e4, e5, e6⟩ := find_pi h ho (hd h0) hv q hq
    rw [hq]
    simp only [e1, e4, List.append_nil]
    exact ⟨e2, e3, hc, ho, e6, fun _ => e5⟩
  · simp only [if_neg h0]
    split
    · simp only [(fine_ld vs th cs _).2, List.append_nil]
      exact ⟨h, (fine_ld _ _ _ _).1, hc, ho, hv, fun z => by simp only at z; first | omega | (split at z <;> omega)⟩
    · split
      · simp only [(fine_ld vs th cs _).2, List.append_nil]
        exact ⟨h, (fine_ld _ _ _ _).1, hc, ho, hv, fun z => by simp only at z; first | omega | (split at z <;> omega)⟩
      · simp only [(fine_ld vs th cs _).2, List.append_nil]
        exact ⟨h, (fine_ld _ _ _ _).1, hc, ho, hv, fun z => by simp only at z; first | omega | (split at z <;> omega)⟩
theorem fine_k1 (vs : List Nat) (th : Int) (a g : Nat) : Fine vs [⟨th, 1, a, 0, 0, .slice none 0 0, [], g, false⟩] ∧ vrsV [⟨th, 1, a, 0, 0, .slice none 0 0, [], g, false⟩] = [] := ⟨⟨fun x hx e => by simp at hx; subst hx; simp at e, fun x hx => by simp at hx; subst hx; simp⟩, by simp [vrsV]⟩
theorem goOn_pp {vs : List Nat} {F : Nat} {l : List Nat} {s : CutS} (ho : s.obj = 2 ∨ s.obj = 3) (ha : isV vs s.asked) : CutP.pp vs ⟨F, l, s.goOn⟩ := by
  refine ⟨ho, fun h1 h2 => ?_, fun h => ?_, fun h => ?_⟩ <;> simp only [CutS.goOn] at *
  · split at h2
    · omega
    · next c => exact ha.resolve_left c
  · split at h <;> omega
  · split at h <;> omega
theorem join_pp {vs : List Nat} {F : Nat} {l : List Nat} {s : CutS} (ho : s.obj = 2 ∨ s.obj = 3) (hk : s.kept ∈ vs) (ha : isV vs s.asked) (hl : s.asked < s.kept) : CutP.pp vs ⟨F, l, s.join⟩ := by
  unfold CutS.join
  split
  · exact goOn_pp ho ha
  · exact ⟨ho, fun _ _ => hk, fun h => by simp at h, fun _ => ⟨ha, hl⟩⟩
theorem ask_pp {vs : List Nat} {F : Nat} {l : List Nat} {s : CutS} {x : Nat} (ho : s.obj = 2 ∨ s.obj = 3) (hk : s.kept ∈ vs) (ha : isV vs x) (hl : x < s.kept) : CutP.pp vs ⟨F, l, s.ask x⟩ := by
  unfold CutS.ask
  split
  · refine join_pp ?_ ?_ ?_ ?_
    · exact ho
    · exact hk
    · exact ha
    · exact hl
  · next c => exact ⟨ho, fun _ _ => hk, fun _ => ⟨ha.resolve_left c, hl⟩, fun h => by simp at h⟩
theorem cut_pi {next : Nat} {cs vs : List Nat} {th : Int} {s : CutP} (h : PI next cs vs) (hp : s.pp vs) (h6 : s.s.nx ≤ 6) (o : List Nat × CutS × Acc) (e : kstep th s.F s.l 4096 cs s.s = o) :
    PI next o.1 (vs ++ vrsV [o.2.2]) ∧ Fine vs [o.2.2] ∧ CutP.pp (vs ++ vrsV [o.2.2]) ⟨s.F, s.l, o.2.1⟩ := by
  obtain ⟨ho, hk, ha, h6'⟩ := hp
  subst e
  have ad : ∀ a k, a < 4096 → k ≤ 2 → addP a k = a + k := fun a k h1 h2 => by unfold addP; omega
  unfold kstep
  by_cases h0 : s.s.nx = 0
  · simp only [if_pos h0, (fine_k1 vs th _ _).2, List.append_nil]
    refine ⟨h, (fine_k1 _ _ _ _).1, ho, fun h1 h2 => ?_, fun z => ?_, fun z => ?_⟩
    · simp only at h2 ⊢
      split at h2
      · omega
      · next c => exact (h.obj _ ho).resolve_left c
    · simp only at z; split at z <;> omega
    · simp only at z; split at z <;> omega
  · simp only [if_neg h0]
    have hk' := hk (by omega) h6
    have lk := h.lt (.inr hk')
    by_cases h1 : s.s.nx = 1
    · simp only [if_pos h1, (fine_k1 vs th _ _).2, List.append_nil]
      exact ⟨h, (fine_k1 _ _ _ _).1, ho, fun _ _ => hk', fun z => by simp at z, fun z => by simp at z⟩
    · simp only [if_neg h1]
      by_cases h2 : s.s.nx = 2
      · simp only [if_pos h2, (fine_k1 vs th _ _).2, List.append_nil]
        exact ⟨h, (fine_k1 _ _ _ _).1, ho, fun _ _ => hk', fun z => by simp at z, fun z => by simp at z⟩
      · simp only [if_neg h2]
        by_cases h3 : s.s.nx = 3
        · simp only [if_pos h3, (fine_k1 vs th _ _).2, List.append_nil]
          have l2 := h.lnk _ hk'
          rw [← ad _ 2 lk (by omega)] at l2
          refine ⟨h, (fine_k1 _ _ _ _).1, ?_⟩
          exact ask_pp (s := { s.s with first := cellN cs (addP s.s.kept 2) }) ho hk' l2.1 l2.2
        · simp only [if_neg h3]
          by_cases h4 : s.s.nx = 4
          · obtain ⟨a1, a2⟩ := ha (.inl h4)
            simp only [if_pos h4, (fine_k1 vs th _ _).2, List.append_nil]
            refine ⟨h, (fine_k1 _ _ _ _).1, ?_⟩
            split
            · exact join_pp (s := { s.s with ast := cellN cs (addP s.s.asked 1), nx := 5 }) ho hk' (.inr a1) a2
            · exact ⟨ho, fun _ _ => hk', fun _ => ⟨a1, a2⟩, fun z => by simp at z⟩
          · simp only [if_neg h4]
            by_cases h5 : s.s.nx = 5
            · obtain ⟨a1, a2⟩ := ha (.inr h5)
              simp only [if_pos h5, (fine_k1 vs th _ _).2, List.append_nil]
              have l2 := h.lnk _ a1
              rw [← ad _ 2 (h.lt (.inr a1)) (by omega)] at l2
              refine ⟨h, (fine_k1 _ _ _ _).1, ?_⟩
              exact ask_pp (s := { s.s with cnt := s.s.cnt + 1 }) ho hk' l2.1 (Nat.lt_trans l2.2 a2)
            · obtain ⟨a1, a2⟩ := h6' (by omega)
              simp only [if_neg h5]
              rw [ad _ 2 lk (by omega)]
              have e0 : vrsV [⟨th, 2, s.s.kept + 2, s.s.asked, 0, .slice none 0 0, [], 0, false⟩] = [] := by simp [vrsV]
              simp only [e0, List.append_nil]
              refine ⟨h.store hk' a1 a2, ⟨fun x hx e => ?_, fun x hx => by simp at hx; subst hx; simp⟩, goOn_pp ho a1⟩
              simp at hx
              subst hx
              exact ⟨a1, ⟨_, hk', rfl⟩, by simp only; omega⟩
end Go.Proofs.Ytbjebnkfecjpnaa
