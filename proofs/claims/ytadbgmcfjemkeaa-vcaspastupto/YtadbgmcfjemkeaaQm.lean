/- VcasPast: an At alone, the stamps of a second run, and the walk. -/
import Derived.Test.YtadbgmcfjemkeaaHq
import Derived.WalkKit
import Derived.BigQuiet
import Derived.Deep.RegionHeld3
namespace Go.Proofs.Ytadbgmcfjemkeaa
open Go.RowKit Go.Shelf
set_option linter.unusedVariables false

/-- What an At tells of a chain of versions. -/
def atRes (cs : List Nat) (s : Nat) : List Nat → Nat
  | [] => 0
  | a :: r => if cellN cs (a + 1) ≤ s then cellN cs a else atRes cs s r
theorem atRes_congr {cs cs' : List Nat} {s : Nat} {l : List Nat} (h : ∀ a ∈ l, cellN cs' (a + 1) = cellN cs (a + 1) ∧ cellN cs' a = cellN cs a) : atRes cs' s l = atRes cs s l := by
  induction l with
  | nil => rfl
  | cons a r ih =>
    unfold atRes
    rw [(h a (by simp)).1, (h a (by simp)).2, ih (fun b hb => h b (by simp [hb]))]
theorem atRes_pre {cs : List Nat} {s : Nat} {p l : List Nat} (h : ∀ a ∈ p, ¬ cellN cs (a + 1) ≤ s) : atRes cs s (p ++ l) = atRes cs s l := by
  induction p with
  | nil => rfl
  | cons a r ih =>
    show (if cellN cs (a + 1) ≤ s then cellN cs a else atRes cs s (r ++ l)) = _
    rw [if_neg (h a (by simp))]
    exact ih (fun b hb => h b (by simp [hb]))
theorem ch_at {cs : List Nat} {p : List Nat} {h a : Nat} {r : List Nat} (c : Ch cs h (p ++ a :: r)) : Ch cs (cellN cs (a + 2)) r := by
  induction p generalizing h with
  | nil => exact c.2.2
  | cons x p ih => exact ih c.2.2
theorem casN_any (most : Nat) (cs : List Nat) (a old now j : Nat) : cellN (casN most cs a old now) j = cellN cs j ∨ (j = a ∧ cellN cs j = old ∧ cellN (casN most cs a old now) j = now) := by
  unfold casN
  split
  · next c =>
    rw [putN_cell]
    split
    · next e => subst e; exact .inr ⟨rfl, c.2, rfl⟩
    · exact .inl rfl
  · exact .inl rfl
/-- An At alone, so far. -/
def AtI (cs l : List Nat) (s C : Nat) (q : AtS) (k : Nat) : Prop :=
  q.stamp = s ∧ q.val = 0 ∧ (
    (q.nx = 0 ∧ q.f.fpos = 0 ∧ k = 3 * l.length + 10) ∨
    (q.nx = 0 ∧ q.f.fpos = 1 ∧ q.f.ver = q.f.head ∧ (∃ r, l = q.f.head :: r) ∧ q.f.pos ≤ 2 ∧ (q.f.pos ≠ 0 → cellN cs (q.f.head + 1) = 0) ∧ (q.f.pos = 2 → q.f.st = C) ∧ k = 3 * l.length + 9 - q.f.pos) ∨
    (q.nx = 1 ∧ (∀ a ∈ l, cellN cs (a + 1) ≠ 0) ∧ ∃ p r, l = p ++ q.f.head :: r ∧ (∀ a ∈ p, ¬ cellN cs (a + 1) ≤ s) ∧ k = 3 * r.length + 5) ∨
    (q.nx = 2 ∧ (∀ a ∈ l, cellN cs (a + 1) ≠ 0) ∧ ∃ p r, l = p ++ q.f.head :: r ∧ (∀ a ∈ p, ¬ cellN cs (a + 1) ≤ s) ∧ ¬ cellN cs (q.f.head + 1) ≤ s ∧ k = 3 * r.length + 4) ∨
    (q.nx = 3 ∧ (∀ a ∈ l, cellN cs (a + 1) ≠ 0) ∧ ∃ p r, l = p ++ q.f.head :: r ∧ (∀ a ∈ p, ¬ cellN cs (a + 1) ≤ s) ∧ cellN cs (q.f.head + 1) ≤ s ∧ k = 1))
/-- What an At leaves. -/
structure AtE (cs0 cs : List Nat) (next : Nat) (ch : Nat → List Nat) (C : Nat) : Prop where
  gi : GI next cs ch
  gr : Gr cs0 ch cs ch
  cam : cellN cs 1 = C
  eff : ∀ j, 5 ≤ j → cellN cs j = cellN cs0 j ∨ (cellN cs0 j = 0 ∧ cellN cs j = C)
theorem AtE.trans {cs0 cs1 cs2 : List Nat} {next : Nat} {ch : Nat → List Nat} {C : Nat} (h : AtE cs0 cs1 next ch C) (k : AtE cs1 cs2 next ch C) : AtE cs0 cs2 next ch C := ⟨k.gi, h.gr.trans k.gr, k.cam, fun j hj => by
  rcases h.eff j hj with a | ⟨a, a'⟩
  · rcases k.eff j hj with b | ⟨b, b'⟩
    · exact .inl (b.trans a)
    · exact .inr ⟨a.symm.trans b, b'⟩
  · rcases k.eff j hj with b | ⟨b, b'⟩
    · exact .inr ⟨a, b.trans a'⟩
    · exact .inr ⟨a, b'⟩⟩
theorem AtE.refl {cs : List Nat} {next : Nat} {ch : Nat → List Nat} {C : Nat} (h : GI next cs ch) (hc : cellN cs 1 = C) : AtE cs cs next ch C := ⟨h, Gr.refl _ _, hc, fun j _ => .inl rfl⟩
theorem at_stepP {next : Nat} {cs : List Nat} {ch : Nat → List Nat} {obj s C k : Nat} {th : Int} {q : AtS} (h : GI next cs ch) (ho : isO obj) (hC : cellN cs 1 = C) (hs : s < C) (I : AtI cs (ch obj) s C q k) (o : Out AtS) (e : atO th 16384 next cs 1 obj q = o) :
    o.next = next ∧ AtE cs o.cs next ch C ∧ ((o.done = true ∧ o.s.val = atRes o.cs s (ch obj) ∧ ∀ a ∈ ch obj, cellN o.cs (a + 1) ≠ 0) ∨ (o.done = false ∧ ∃ j, j < k ∧ AtI o.cs (ch obj) s C o.s j)) := by
  subst e
  have hcam := h.cam
  have hn := h.nx
  have lo : ∀ a ∈ ch obj, 5 ≤ a ∧ a + 3 ≤ next ∧ cellN cs (a + 1) ≤ cellN cs 1 := fun a ha => ⟨(h.vs obj ho a ha).1, (h.vs obj ho a ha).2.1, (h.vs obj ho a ha).2.2.2⟩
  obtain ⟨i1, i2, I⟩ := I
  unfold atO
  rcases I with ⟨n0, f0, ek⟩ | ⟨n0, f1, ev, ⟨r, hr⟩, hp, z0, z2, ek⟩ | ⟨n1, za, p, r, hr, hp, ek⟩ | ⟨n2, za, p, r, hr, hp, hh, ek⟩ | ⟨n3, za, p, r, hr, hp, hh, ek⟩
  · rw [if_pos n0]
    unfold fdO
    rw [if_pos f0]
    refine ⟨by trivial, AtE.refl h hC, ?_⟩
    by_cases z : cellN cs obj = 0
    · left
      have c := h.chn obj ho
      rw [z] at c
      have el := c.zero
      refine ⟨by simp [z], ?_, fun a ha => by rw [el] at ha; simp at ha⟩
      show q.val = _
      rw [i2, el]
      rfl
    · right
      obtain ⟨r, hr⟩ := (h.chn obj ho).head z
      refine ⟨by simp [z], 3 * (ch obj).length + 9, by omega, i1, i2, .inr (.inl ⟨by simp [z], by simp [fpN, z], rfl, ⟨r, hr⟩, by simp, fun y => absurd rfl y, fun y => by simp at y, by simp⟩)⟩
  · rw [if_pos n0]
    unfold fdO
    rw [if_neg (show ¬ q.f.fpos = 0 by omega)]
    have hm : q.f.head ∈ ch obj := by rw [hr]; simp
    obtain ⟨l1, l2, l3⟩ := lo _ hm
    have evs : verS q.f.ver = q.f.head + 1 := by rw [ev]; unfold verS; omega
    have tl : TL cs (ch obj) q.f.ver q.f.pos q.f.st := ⟨by rw [ev]; exact hm, fun y => ⟨by rw [z2 y]; omega, by rw [z2 y]; omega, fun b hb _ => by rw [z2 y, ← hC]; exact (lo b hb).2.2⟩, fun y => by omega⟩
    obtain ⟨G, _⟩ := GI.tell (own := fun _ => (0, 0)) (ij := (0, 0)) h ho tl hp
    have c1 : cellN (tlC 16384 cs q.f.ver q.f.pos q.f.st) 1 = C := by
      unfold tlC
      split
      · rw [evs, casN_eq _ _ _ _ _ (by omega), if_neg (by omega)]; exact hC
      · exact hC
    have AE : AtE cs (tlC 16384 cs q.f.ver q.f.pos q.f.st) next ch C := ⟨G.gi, G.gr, c1, fun j hj => by
      unfold tlC
      split
      · next y =>
        rcases casN_any 16384 cs (verS q.f.ver) 0 q.f.st j with z | ⟨_, z, z'⟩
        · exact .inl z
        · exact .inr ⟨z, by rw [z']; exact z2 y⟩
      · exact .inl rfl⟩
    have hne : q.f.head ≠ 0 := by omega
    have pw := h.pw obj ho
    have rest : ∀ a ∈ r, cellN cs (a + 1) ≠ 0 := fun a ha => by
      rw [hr] at pw
      exact ((List.pairwise_cons.1 pw).1 a ha).2.1
    by_cases d : tlD cs q.f.ver q.f.pos = true
    · refine ⟨by trivial, AE, .inr ⟨by simp [d, hne], 3 * r.length + 5, by rw [ek, hr]; simp; omega, i1, i2, .inr (.inr (.inl ⟨by simp [d, hne], fun a ha => ?_, [], r, by simpa using hr, fun a ha => by simp at ha, rfl⟩))⟩⟩
      show cellN (tlC 16384 cs q.f.ver q.f.pos q.f.st) (a + 1) ≠ 0
      have gv := G.gr.val obj ho a ha
      by_cases za : cellN cs (a + 1) = 0
      · have ea : a = q.f.head := by
          rw [hr] at ha
          rcases List.mem_cons.1 ha with y | y
          · exact y
          · exact absurd za (rest a y)
        subst ea
        unfold tlD tlP at d
        have p2 : q.f.pos = 2 := by
          rw [evs] at d
          by_cases y0 : q.f.pos = 0
          · simp [y0, za] at d
          · by_cases y1 : q.f.pos = 1
            · simp [y1] at d
            · omega
        unfold tlC
        rw [if_pos p2, evs, casN_eq _ _ _ _ _ (by omega), if_pos ⟨rfl, za⟩, z2 p2]
        omega
      · rw [gv.2.2 za]; exact za
    · have d' : tlD cs q.f.ver q.f.pos = false := by simpa using d
      have dp : (q.f.pos = 0 ∧ cellN cs (q.f.head + 1) = 0) ∨ q.f.pos = 1 := by
        unfold tlD tlP at d
        rw [evs] at d
        by_cases y0 : q.f.pos = 0
        · left
          refine ⟨y0, ?_⟩
          by_cases y : cellN cs (q.f.head + 1) = 0
          · exact y
          · simp [y0, y] at d
        · right
          by_cases y1 : q.f.pos = 1
          · exact y1
          · simp [y0, y1] at d
      have ec : tlC 16384 cs q.f.ver q.f.pos q.f.st = cs := by unfold tlC; rw [if_neg (by omega)]
      have z1 : cellN cs (q.f.head + 1) = 0 := by
        rcases dp with y | y
        · exact y.2
        · exact z0 (by omega)
      have tp : tlP cs q.f.ver q.f.pos = q.f.pos + 1 := by
        unfold tlP
        rw [evs]
        rcases dp with y | y
        · simp [y.1, y.2]
        · simp [y]
      refine ⟨by trivial, AE, .inr ⟨by simp [d'], 3 * (ch obj).length + 9 - (q.f.pos + 1), by rw [ek]; omega, i1, i2, .inr (.inl ⟨by simp [d'], by simp [d'], ev, ⟨r, hr⟩, ?_, fun _ => ?_, fun y => ?_, ?_⟩)⟩⟩
      · show tlP cs q.f.ver q.f.pos ≤ 2; rw [tp]; omega
      · show cellN (tlC 16384 cs q.f.ver q.f.pos q.f.st) (q.f.head + 1) = 0; rw [ec]; exact z1
      · show tlS cs 1 q.f.pos q.f.st = C
        have y' : tlP cs q.f.ver q.f.pos = 2 := y
        unfold tlS
        rw [if_pos (by omega)]; exact hC
      · show 3 * (ch obj).length + 9 - (q.f.pos + 1) = 3 * (ch obj).length + 9 - tlP cs q.f.ver q.f.pos
        rw [tp]
  · have hm : q.f.head ∈ ch obj := by rw [hr]; simp
    obtain ⟨l1, l2, l3⟩ := lo _ hm
    have evs : verS q.f.head = q.f.head + 1 := by unfold verS; omega
    rw [if_neg (show ¬ q.nx = 0 by omega), if_pos n1]
    refine ⟨by trivial, AtE.refl h hC, .inr ⟨by trivial, ?_⟩⟩
    by_cases c : cellN cs (q.f.head + 1) ≤ s
    · refine ⟨1, by omega, i1, i2, .inr (.inr (.inr (.inr ⟨by show (if cellN cs (verS q.f.head) ≤ q.stamp then 3 else 2) = 3; rw [evs, i1, if_pos c], za, p, r, hr, hp, c, rfl⟩)))⟩
    · refine ⟨3 * r.length + 4, by omega, i1, i2, .inr (.inr (.inr (.inl ⟨by show (if cellN cs (verS q.f.head) ≤ q.stamp then 3 else 2) = 2; rw [evs, i1, if_neg c], za, p, r, hr, hp, c, rfl⟩)))⟩
  · have hm : q.f.head ∈ ch obj := by rw [hr]; simp
    obtain ⟨l1, l2, l3⟩ := lo _ hm
    have evo : verO q.f.head = q.f.head + 2 := by unfold verO; omega
    rw [if_neg (show ¬ q.nx = 0 by omega), if_neg (show ¬ q.nx = 1 by omega), if_pos n2]
    refine ⟨by trivial, AtE.refl h hC, ?_⟩
    have c := h.chn obj ho
    rw [hr] at c
    have c2 := ch_at c
    have pall : ∀ a ∈ p ++ [q.f.head], ¬ cellN cs (a + 1) ≤ s := fun a ha => by
      rcases List.mem_append.1 ha with y | y
      · exact hp a y
      · simp at y; subst y; exact hh
    cases r with
    | nil =>
      have z : cellN cs (q.f.head + 2) = 0 := c2
      left
      refine ⟨by simp [evo, z], ?_, za⟩
      show q.val = _
      rw [i2, hr, show p ++ [q.f.head] = (p ++ [q.f.head]) ++ [] by simp, atRes_pre pall]
      rfl
    | cons b r =>
      have z : cellN cs (q.f.head + 2) = b := c2.1
      have zn : b ≠ 0 := c2.2.1
      right
      refine ⟨by simp [evo, z, zn], 3 * r.length + 5, by rw [ek]; simp; omega, i1, i2, .inr (.inr (.inl ⟨by simp [evo, z, zn], za, p ++ [q.f.head], r, ?_, pall, rfl⟩))⟩
      show ch obj = p ++ [q.f.head] ++ cellN cs (verO q.f.head) :: r
      rw [evo, z, hr]; simp
  · rw [if_neg (show ¬ q.nx = 0 by omega), if_neg (show ¬ q.nx = 1 by omega), if_neg (show ¬ q.nx = 2 by omega)]
    refine ⟨by trivial, AtE.refl h hC, .inl ⟨by trivial, ?_, za⟩⟩
    show cellN cs q.f.head = _
    rw [hr, atRes_pre hp]
    unfold atRes
    rw [if_pos hh]
/- The stamps of a run. -/
def VP.cg (C : Nat) : VP → Prop
  | .inl s => s.s.f.pos = 2 → C ≤ s.s.f.st
  | .inr (.inl s) => s.s.r.f.pos = 2 → C ≤ s.s.r.f.st
  | .inr (.inr (.inl s)) => s.s.f.pos = 2 → C ≤ s.s.f.st
  | .inr (.inr (.inr _)) => True
def Eff (C next : Nat) (cs cs' : List Nat) : Prop := ∀ j, 5 ≤ j → j < next → cellN cs' j = cellN cs j ∨ (cellN cs j = 0 ∧ C ≤ cellN cs' j)
theorem Eff.refl (C next : Nat) (cs : List Nat) : Eff C next cs cs := fun j _ _ => .inl rfl
section
variable {C next : Nat} {cs : List Nat} {th : Int} {obj : Nat}
theorem tl_eff {ver pos st : Nat} (h : pos = 2 → C ≤ st) : Eff C next cs (tlC 16384 cs ver pos st) := fun j _ _ => by
  unfold tlC
  split
  · next c =>
    rcases casN_any 16384 cs (verS ver) 0 st j with y | ⟨_, y, z⟩
    · exact .inl y
    · exact .inr ⟨y, by rw [z]; exact h c⟩
  · exact .inl rfl
theorem tl_cg {ver pos st : Nat} (hc : C ≤ cellN cs 1) (h : tlP cs ver pos = 2) : C ≤ tlS cs 1 pos st := by
  unfold tlP at h
  unfold tlS
  split at h
  · split at h <;> omega
  · split at h
    · next y => rw [if_pos y]; exact hc
    · omega
theorem find_eff {s : VS} (hc : C ≤ cellN cs 1) (h : s.pos = 2 → C ≤ s.st) : Eff C next cs (fdO th 16384 next cs 1 obj s).cs ∧ ((fdO th 16384 next cs 1 obj s).s.pos = 2 → C ≤ (fdO th 16384 next cs 1 obj s).s.st) ∧ (fdO th 16384 next cs 1 obj s).next = next := by
  unfold fdO
  split
  · exact ⟨Eff.refl _ _ _, fun y => by simp at y, rfl⟩
  · exact ⟨tl_eff h, fun y => tl_cg hc y, rfl⟩
theorem read_eff {s : RS} (hc : C ≤ cellN cs 1) (h : s.f.pos = 2 → C ≤ s.f.st) : Eff C next cs (rdO th 16384 next cs 1 obj s).cs ∧ ((rdO th 16384 next cs 1 obj s).s.f.pos = 2 → C ≤ (rdO th 16384 next cs 1 obj s).s.f.st) ∧ (rdO th 16384 next cs 1 obj s).next = next := by
  unfold rdO
  split
  · exact find_eff hc h
  · exact ⟨Eff.refl _ _ _, h, rfl⟩
theorem obj_eff {a old now : Nat} (ha : a < 5) : Eff C next cs (casN 16384 cs a old now) := fun j hj _ => by
  rcases casN_any 16384 cs a old now j with y | ⟨y, _, _⟩
  · exact .inl y
  · omega
theorem cas_eff {s : CasS} (ho : isO obj) (hn : 5 ≤ next) (hc : C ≤ cellN cs 1) (h : s.r.f.pos = 2 → C ≤ s.r.f.st) : Eff C next cs (casO th 16384 next cs 1 obj s).cs ∧ ((casO th 16384 next cs 1 obj s).s.r.f.pos = 2 → C ≤ (casO th 16384 next cs 1 obj s).s.r.f.st) ∧ ∀ a, next ≤ a → a + 3 ≤ (casO th 16384 next cs 1 obj s).next → cellN (casO th 16384 next cs 1 obj s).cs (a + 1) = 0 := by
  obtain ⟨R1, R2, R3⟩ := read_eff (th := th) (obj := obj) (next := next) hc h
  unfold casO
  split
  · by_cases d : (rdO th 16384 next cs 1 obj s.r).done = true
    · simp only [d, if_true]
      refine ⟨R1, ?_, fun a h1 h2 => by rw [R3] at h2; omega⟩
      unfold CasS.comp
      split
      · exact R2
      · exact R2
    · have d' : (rdO th 16384 next cs 1 obj s.r).done = false := by simpa using d
      simp only [d', Bool.false_eq_true, if_false]
      exact ⟨R1, R2, fun a h1 h2 => by rw [R3] at h2; omega⟩
  · split
    · refine ⟨fun j h1 h2 => ?_, h, fun a h1 h2 => ?_⟩
      · left
        show cellN (alN 16384 next cs [s.now, 0, s.r.f.head]) j = _
        by_cases ok : alOk 16384 next 3
        · rw [alN_cellV (show alOk 16384 next [s.now, 0, s.r.f.head].length from ok), if_neg (by omega)]
        · unfold alN; rw [if_neg (show ¬ alOk 16384 next [s.now, 0, s.r.f.head].length from ok)]
      · show cellN (alN 16384 next cs [s.now, 0, s.r.f.head]) (a + 1) = 0
        have h2' : a + 3 ≤ alNext 16384 next 3 := h2
        unfold alNext at h2'
        split at h2'
        · next ok =>
          have e : a = next := by omega
          subst e
          rw [alN_cellV (show alOk 16384 a [s.now, 0, s.r.f.head].length from ok), if_pos ⟨by omega, by simp⟩]
          simp [cellN]
        · omega
    · split
      · refine ⟨obj_eff (by have := ho.2; omega), ?_, fun a h1 h2 => by have h3 : a + 3 ≤ next := h2; omega⟩
        split
        · intro y; simp [CasS.aim] at y
        · exact h
      · split
        · exact ⟨Eff.refl _ _ _, fun y => by simp [CasS.aim] at y, fun a h1 h2 => by have h3 : a + 3 ≤ next := h2; omega⟩
        · exact ⟨tl_eff h, fun y => tl_cg hc y, fun a h1 h2 => by have h3 : a + 3 ≤ next := h2; omega⟩
theorem at_eff {s : AtS} (hc : C ≤ cellN cs 1) (h : s.f.pos = 2 → C ≤ s.f.st) : Eff C next cs (atO th 16384 next cs 1 obj s).cs ∧ ((atO th 16384 next cs 1 obj s).s.f.pos = 2 → C ≤ (atO th 16384 next cs 1 obj s).s.f.st) ∧ (atO th 16384 next cs 1 obj s).next = next := by
  unfold atO
  split
  · exact find_eff hc h
  · split
    · exact ⟨Eff.refl _ _ _, h, rfl⟩
    · split
      · exact ⟨Eff.refl _ _ _, h, rfl⟩
      · exact ⟨Eff.refl _ _ _, h, rfl⟩
theorem vc_eff {ch : Nat → List Nat} {own : Nat → Nat × Nat} {ij : Nat × Nat} {s : VP} (hn : 5 ≤ next) (P : VP.pp next cs ch own ij s) (hc : C ≤ cellN cs 1) (h : VP.cg C s) : Eff C next cs (vcK.stp th 16384 next cs s).cs ∧ VP.cg C (vcK.stp th 16384 next cs s).s ∧ ∀ a, next ≤ a → a + 3 ≤ (vcK.stp th 16384 next cs s).next → cellN (vcK.stp th 16384 next cs s).cs (a + 1) = 0 := by
  rcases s with s | s | s | s
  · show Eff C next cs (rdO th 16384 next cs s.cam s.obj s.s).cs ∧ ((rdO th 16384 next cs s.cam s.obj s.s).s.f.pos = 2 → C ≤ (rdO th 16384 next cs s.cam s.obj s.s).s.f.st) ∧ ∀ a, next ≤ a → a + 3 ≤ (rdO th 16384 next cs s.cam s.obj s.s).next → cellN (rdO th 16384 next cs s.cam s.obj s.s).cs (a + 1) = 0
    rw [P.1]
    obtain ⟨e1, e2, e3⟩ := read_eff (th := th) (obj := s.obj) (next := next) hc h
    exact ⟨e1, e2, fun a h1 h2 => by rw [e3] at h2; omega⟩
  · show Eff C next cs (casO th 16384 next cs s.cam s.obj s.s).cs ∧ ((casO th 16384 next cs s.cam s.obj s.s).s.r.f.pos = 2 → C ≤ (casO th 16384 next cs s.cam s.obj s.s).s.r.f.st) ∧ ∀ a, next ≤ a → a + 3 ≤ (casO th 16384 next cs s.cam s.obj s.s).next → cellN (casO th 16384 next cs s.cam s.obj s.s).cs (a + 1) = 0
    rw [CasP.pp.cam P]
    exact cas_eff (CasP.pp.obj P) hn hc h
  · show Eff C next cs (atO th 16384 next cs s.cam s.obj s.s).cs ∧ ((atO th 16384 next cs s.cam s.obj s.s).s.f.pos = 2 → C ≤ (atO th 16384 next cs s.cam s.obj s.s).s.f.st) ∧ ∀ a, next ≤ a → a + 3 ≤ (atO th 16384 next cs s.cam s.obj s.s).next → cellN (atO th 16384 next cs s.cam s.obj s.s).cs (a + 1) = 0
    rw [P.1]
    obtain ⟨e1, e2, e3⟩ := at_eff (th := th) (obj := s.obj) (next := next) hc h
    exact ⟨e1, e2, fun a h1 h2 => by rw [e3] at h2; omega⟩
  · show Eff C next cs (tkO th 16384 next cs s).cs ∧ True ∧ ∀ a, next ≤ a → a + 3 ≤ (tkO th 16384 next cs s).next → cellN (tkO th 16384 next cs s).cs (a + 1) = 0
    have hcl : s.cell = 1 := P
    unfold tkO
    split
    · exact ⟨Eff.refl _ _ _, trivial, fun a h1 h2 => by have h3 : a + 3 ≤ next := h2; omega⟩
    · exact ⟨by rw [hcl]; exact obj_eff (by omega), trivial, fun a h1 h2 => by have h3 : a + 3 ≤ next := h2; omega⟩
end
theorem VInv.pick2 {T : Nat} {cl : Nat → Nat} {c : Cfg VP} {ch : Nat → List Nat} {own : Nat → Nat × Nat} (h : VInv T cl c ch own) (th : Int) : ∃ ch' own', VGo T cl c ch own (c.pick vcK 16384 T cl th) ch' own' ∧ ((∃ i : Nat, i < T ∧ c.ix i < cl i ∧ c.pick vcK 16384 T cl th = c.go vcK 16384 i ∧ Goo c.next c.cs ch own (i, c.ix i) (c.out vcK 16384 i).next (c.out vcK 16384 i).cs ch' own') ∨ (c.pick vcK 16384 T cl th = c ∧ ch' = ch ∧ own' = own)) := by
  by_cases c0 : 0 ≤ th ∧ th < T ∧ c.ix th.toNat < cl th.toNat
  · obtain ⟨i, rfl⟩ : ∃ i : Nat, th = (i : Int) := ⟨th.toNat, by omega⟩
    have hi : i < T := by omega
    have hj : c.ix i < cl i := by simpa using c0.2.2
    have hgo : c.pick vcK 16384 T cl (i : Int) = c.go vcK 16384 i := by unfold Cfg.pick; rw [if_pos c0]; rfl
    rw [hgo]
    obtain ⟨ch', own', g1, g2, g3, g4, g5, g6⟩ := vc_gi (th := (i : Int)) h.gi (h.pp i (c.ix i) hi hj) (h.on i (c.ix i) hi hj (Nat.le_refl _)) (c.out vcK 16384 i) rfl
    have at_ : ∀ j q, updN c.σ i (updN (c.σ i) (c.ix i) (c.out vcK 16384 i).s) j q = if j = i ∧ q = c.ix i then (c.out vcK 16384 i).s else c.σ j q := fun j q => by
      by_cases e : j = i
      · subst e
        rw [updN_same]
        by_cases e2 : q = c.ix j
        · subst e2; rw [updN_same, if_pos ⟨rfl, rfl⟩]
        · rw [updN_other _ _ _ _ e2, if_neg (fun z => e2 z.2)]
      · rw [updN_other _ _ _ _ e, if_neg (fun z => e z.1)]
    refine ⟨ch', own', ⟨⟨g1.gi, fun j q hj2 hq => ?_, fun j q hj2 hq hle => ?_⟩, g1.gr, fun j q => ?_, fun O o a ho ha => ?_⟩, .inl ⟨i, hi, hj, rfl, g1⟩⟩
    · show VP.pp _ _ ch' own' (j, q) (updN c.σ i (updN (c.σ i) (c.ix i) (c.out vcK 16384 i).s) j q)
      rw [at_]
      split
      · next z => rw [z.1, z.2]; exact g2
      · next z => exact (h.pp j q hj2 hq).mono h.gi g1 (fun y => z (by simpa using y))
    · show VP.on (updN c.σ i (updN (c.σ i) (c.ix i) (c.out vcK 16384 i).s) j q)
      have hle' : updN c.ix i (if (c.out vcK 16384 i).done then c.ix i + 1 else c.ix i) j ≤ q := hle
      rw [at_]
      split
      · next z =>
        obtain ⟨rfl, rfl⟩ := z
        rw [updN_same] at hle'
        refine g3 ?_
        cases hd : (c.out vcK 16384 j).done
        · rfl
        · rw [hd] at hle'; simp at hle'; omega
      · next z =>
        refine h.on j q hj2 hq ?_
        by_cases e : j = i
        · subst e
          rw [updN_same] at hle'
          split at hle' <;> omega
        · rw [updN_other _ _ _ _ e] at hle'; exact hle'
    · show VP.sig (updN c.σ i (updN (c.σ i) (c.ix i) (c.out vcK 16384 i).s) j q) = _
      rw [at_]
      split
      · next z => rw [z.1, z.2]; exact g6
      · rfl
    · show _ ∧ _ ∧ VP.inst o a (updN c.σ i (updN (c.σ i) (c.ix i) (c.out vcK 16384 i).s) (own' a).1 (own' a).2)
      rw [at_]
      rcases g4 o a ha with z | z
      · obtain ⟨o1, o2, o3⟩ := O o a ho z
        rw [g1.ow a (h.gi.vs o ho a z).2.1]
        refine ⟨o1, o2, ?_⟩
        split
        · next y =>
          rw [y.1, y.2] at o3
          exact g5 o a o3
        · exact o3
      · have ow : own' a = (i, c.ix i) := by
          rcases hs : (c.out vcK 16384 i).s with s | s | s | s
          · rw [hs] at z; exact z.elim
          · rw [hs] at z g2
            have := (CasP.pp.ins g2 z.2.2).ow
            rw [z.2.1] at this
            exact this
          · rw [hs] at z; exact z.elim
          · rw [hs] at z; exact z.elim
        rw [ow]
        refine ⟨hi, hj, ?_⟩
        rw [if_pos ⟨rfl, rfl⟩]
        exact z
  · have hno : c.pick vcK 16384 T cl th = c := by unfold Cfg.pick; rw [if_neg c0]
    rw [hno]
    exact ⟨ch, own, ⟨h, Gr.refl _ _, fun _ _ => rfl, fun z => z⟩, .inr ⟨rfl, rfl, rfl⟩⟩
/-- What stays over a run that began at a camera of C. -/
structure Pst (C N0 T : Nat) (ch1 : Nat → List Nat) (cl : Nat → Nat) (c : Cfg VP) (ch : Nat → List Nat) (own : Nat → Nat × Nat) : Prop where
  inv : VInv T cl c ch own
  cg : ∀ i j, i < T → j < cl i → VP.cg C (c.σ i j)
  cam : C ≤ cellN c.cs 1
  ow : ∀ a, a + 3 ≤ N0 → own a = (T, 0)
  nx : N0 ≤ c.next
  old : ∀ a, 5 ≤ a → a + 3 ≤ N0 → a % 3 = 2 → (∀ o, isO o → a ∉ ch1 o) → ∀ o, isO o → a ∉ ch o
  st : ∀ a, N0 ≤ a → a + 3 ≤ c.next → a % 3 = 2 → cellN c.cs (a + 1) = 0 ∨ C ≤ cellN c.cs (a + 1)
theorem Pst.pick {C N0 T : Nat} {ch1 : Nat → List Nat} {cl : Nat → Nat} {c : Cfg VP} {ch : Nat → List Nat} {own : Nat → Nat × Nat} (h : Pst C N0 T ch1 cl c ch own) (hN : 5 ≤ N0 ∧ N0 % 3 = 2) (th : Int) : ∃ ch' own', Pst C N0 T ch1 cl (c.pick vcK 16384 T cl th) ch' own' ∧ Gr c.cs ch (c.pick vcK 16384 T cl th).cs ch' := by
  obtain ⟨ch', own', V, G⟩ := h.inv.pick2 th
  refine ⟨ch', own', ?_, V.gr⟩
  have V' := V.inv
  have Vg := V.gr
  rcases G with ⟨i, hi, hj, e, G⟩ | ⟨e, rfl, rfl⟩
  · rw [e] at V' Vg ⊢
    obtain ⟨E1, E2, E3⟩ := vc_eff (th := (i : Int)) (by have := h.inv.gi.nx; omega) (h.inv.pp i (c.ix i) hi hj) h.cam (h.cg i (c.ix i) hi hj)
    have gx := h.inv.gi.nx
    refine ⟨V', fun p q hp hq => ?_, Nat.le_trans h.cam Vg.cam, fun a ha => ?_, Nat.le_trans h.nx G.le, fun a h1 h2 h3 h4 => ?_, fun a h1 h2 h3 => ?_⟩
    · show VP.cg C (updN c.σ i (updN (c.σ i) (c.ix i) (c.out vcK 16384 i).s) p q)
      by_cases e1 : p = i
      · subst e1
        rw [updN_same]
        by_cases e2 : q = c.ix p
        · subst e2; rw [updN_same]; exact E2
        · rw [updN_other _ _ _ _ e2]; exact h.cg p q hp hq
      · rw [updN_other _ _ _ _ e1]; exact h.cg p q hp hq
    · rw [G.ow a (Nat.le_trans ha h.nx)]; exact h.ow a ha
    · have na := h.old a h1 h2 h3 h4
      refine (G.nf a h1 (Nat.le_trans h2 h.nx) h3 (fun z => ?_) na).2.2.2
      rw [h.ow a h2] at z
      simp at z
      omega
    · have h2' : a + 3 ≤ (c.out vcK 16384 i).next := h2
      show cellN (c.out vcK 16384 i).cs (a + 1) = 0 ∨ C ≤ cellN (c.out vcK 16384 i).cs (a + 1)
      by_cases n : a + 3 ≤ c.next
      · rcases E1 (a + 1) (by omega) (by omega) with y | ⟨_, y⟩
        · have y' : cellN (c.out vcK 16384 i).cs (a + 1) = cellN c.cs (a + 1) := y
          rw [y']; exact h.st a h1 n h3
        · exact .inr y
      · exact .inl (E3 a (by omega) h2')
  · rw [e]; exact h
theorem Pst.run {C N0 T : Nat} {ch1 : Nat → List Nat} {cl : Nat → Nat} (picks : List Int) {c : Cfg VP} {ch : Nat → List Nat} {own : Nat → Nat × Nat} (h : Pst C N0 T ch1 cl c ch own) (hN : 5 ≤ N0 ∧ N0 % 3 = 2) : ∃ ch' own', Pst C N0 T ch1 cl (c.run vcK 16384 T cl picks) ch' own' ∧ Gr c.cs ch (c.run vcK 16384 T cl picks).cs ch' := by
  induction picks generalizing c ch own with
  | nil => exact ⟨ch, own, h, Gr.refl _ _⟩
  | cons x r ih =>
    obtain ⟨ch2, own2, h2, g2⟩ := h.pick hN x
    obtain ⟨ch3, own3, h3, g3⟩ := ih h2
    exact ⟨ch3, own3, h3, g2.trans g3⟩
/-- The past stays. -/
theorem past_same {C N0 T s : Nat} {ch1 ch2 : Nat → List Nat} {cl : Nat → Nat} {c : Cfg VP} {own : Nat → Nat × Nat} {cs1 cs3 : List Nat} {o next : Nat} (h : Pst C N0 T ch1 cl c ch2 own) (hN : 5 ≤ N0 ∧ N0 % 3 = 2) (g : Gr cs1 ch1 c.cs ch2) (A : AtE c.cs cs3 next ch2 (cellN c.cs 1)) (ho : isO o) (hs : s < C) (h1 : ∀ a ∈ ch1 o, cellN cs1 (a + 1) ≠ 0) (h3 : ∀ a ∈ ch2 o, cellN cs3 (a + 1) ≠ 0) : atRes cs3 s (ch2 o) = atRes cs1 s (ch1 o) := by
  obtain ⟨p, e⟩ := g.suf o ho
  have nd : (ch2 o).Pairwise (fun a b => b < a) := (h.inv.gi.pw o ho).imp (fun r => r.1)
  rw [e] at nd
  have hp : ∀ a ∈ p, ¬ cellN cs3 (a + 1) ≤ s := fun a ha => by
    have m2 : a ∈ ch2 o := by rw [e]; exact List.mem_append_left _ ha
    obtain ⟨v1, v2, v3, _⟩ := h.inv.gi.vs o ho a m2
    have nm : ∀ q, isO q → a ∉ ch1 q := fun q hq z => by
      have := h.inv.gi.dj o q a ho hq m2 (g.mem hq z)
      subst this
      have := (List.pairwise_append.1 nd).2.2 a ha a z
      omega
    by_cases c0 : a < N0
    · exact absurd m2 (h.old a v1 (by omega) v3 nm o ho)
    · have q := h.st a (by omega) v2 v3
      by_cases z : cellN c.cs (a + 1) = 0
      · rcases A.eff (a + 1) (by omega) with y | ⟨_, y⟩
        · exact absurd (y.trans z) (h3 a m2)
        · have := h.cam; omega
      · have := (A.gr.val o ho a m2).2.2 z
        rw [this]
        rcases q with q | q
        · exact absurd q z
        · omega
  rw [e, atRes_pre hp]
  refine atRes_congr (fun a ha => ?_)
  have m2 : a ∈ ch2 o := by rw [e]; exact List.mem_append_right _ ha
  obtain ⟨v1, _, v3⟩ := g.val o ho a ha
  obtain ⟨w1, _, w3⟩ := A.gr.val o ho a m2
  have z := v3 (h1 a ha)
  exact ⟨(w3 (by rw [z]; exact h1 a ha)).trans z, w1.trans v1⟩
theorem Chg.falls {a b c : World} (h : Chg (fun _ => False) a b) (k : Chg (fun _ => False) b c) : Chg (fun _ => False) a c := h.trans k (fun _ _ x => x) (fun _ _ x => x)
set_option maxRecDepth 100000 in
set_option maxHeartbeats 1000000 in
/-- A proc alone, by a number that falls each step. -/
theorem alone_falls (P V : Value) (Inv : Nat → World → Prop) (End : World → Prop) (n most : Nat) (hn : n < most) (hm : most < 4611686018427387904) (W : World) (h0 : Inv n W) (hst : ∀ k w, k ≤ n → Inv k w → ∃ d : Bool, Calls Try.prog 35 #[P, V] w fun e w' => e = .returned (.bool d) ∧ ((d = true ∧ End w') ∨ (d = false ∧ ∃ j, j < k ∧ Inv j w'))) :
    Calls Try.prog 19 #[V, P, .int .i64 (most : Int)] W fun e W' => e = .returned (.bool true) ∧ End W' := by
  have H0 := keepH h0
  have HS := keepH hst
  clear h0 hst
  go_enter Try.func19, Try.ntmps19
  go_wp2_with fail
  go_loopw [8] (fun s wr => ∃ i j : Nat, i + j ≤ n ∧ s = .int .i64 (i : Int) ∧ Hid (Inv j wr)) (fun s _ => n + 1 - (intOf s).toNat)
  case atStart => exact ⟨0, n, by omega, rfl, H0⟩
  case round =>
    obtain ⟨i, j, hij, rfl, HI⟩ := hrel
    have i1 : (i : Int) < (most : Int) := by omega
    obtain ⟨d, hd⟩ := HS.out j _ (by omega) HI.out
    have HD := keepH hd
    clear hd
    cases d with
    | true =>
      go_wp2_with fail
      refine HD.out.mono ?_
      rintro e w ⟨rfl, hI⟩
      have HE : Hid (End w) := by
        rcases hI with ⟨_, hI⟩ | ⟨hI, _⟩
        · exact hI
        · simp at hI
      clear hI
      go_wp2_with fail
      go_ret
      exact ⟨by simp, HE.out⟩
    | false =>
      go_wp2_with fail
      refine HD.out.mono ?_
      rintro e w ⟨rfl, hI⟩
      have HE : Hid (∃ k, k < j ∧ Inv k w) := by
        rcases hI with ⟨hI, _⟩ | ⟨_, hI⟩
        · simp at hI
        · exact hI
      clear hI
      go_wp2_with fail
      go_roundw
      case rel =>
        obtain ⟨k, hk, hI⟩ := HE.out
        exact ⟨i + 1, k, by omega, by first | rfl | go_num, keepH hI⟩
      case measure => simp [intOf]; omega
theorem AS.trans {X0 X Y : World} {F0 D0 F D F' D' : Nat → Prop} {b v most next next' : Nat} {th : Int} {made made' : Nat} {cs cs' : List Nat} {t t' : List Acc} (A : AS X0 X F0 D0 F D b v most next th made cs t) (B : AS X Y F D F' D' b v most next' th made' cs' t') : AS X0 Y F0 D0 F' D' b v most next' th made' cs' t' := by
  have s1 := A.chg.size
  refine ⟨B.bank, B.view, B.nv, B.dis, A.chg.trans B.chg (fun _ _ x => x) (fun i hi x => ?_), fun k x => ?_, fun k x => ?_⟩
  · rcases x with x | x | x
    · exact (A.newF i x).elim .inl (fun y => by omega)
    · exact .inr (.inl x)
    · exact (A.newD i x).elim (fun y => .inr (.inr y)) (fun y => by omega)
  · exact (B.newF k x).elim (A.newF k) (fun y => .inr (by omega))
  · exact (B.newD k x).elim (A.newD k) (fun y => .inr (by omega))
/-- The memory with the law's view. -/
structure MV (W X : World) (m b v : Nat) (F : Nat → Prop) (next : Nat) (cs : List Nat) (made n : Nat) : Prop where
  mem : IsMem X m b
  bank : ∃ l, Bank X F b 16384 next cs l ∧ l.length ≤ n
  view : IsView X v b 9 made
  nv : ¬ F v
  nm : ¬ F m
  vm : v ≠ m
  inF : ∀ k, F k → W.heap.size ≤ k
  vW : W.heap.size ≤ v
  chg : Chg (fun _ => False) W X
theorem MV.quiet {W X Y : World} {m b v : Nat} {F : Nat → Prop} {next : Nat} {cs : List Nat} {made n : Nat} (h : MV W X m b v F next cs made n) (c : Chg (fun _ => False) X Y) : MV W Y m b v F next cs made n := by
  obtain ⟨l, B, hl⟩ := h.bank
  exact ⟨h.mem.chg c (fun x => x), ⟨l, B.chg c (fun _ _ x => x), hl⟩, h.view.chg c (fun x => x), h.nv, h.nm, h.vm, h.inF, h.vW, h.chg.falls c⟩
/-- What an At alone comes to. -/
structure AtX (W X Y : World) (m b v p : Nat) (F F' : Nat → Prop) (next : Nat) (cs cs' : List Nat) (ch : Nat → List Nat) (obj s C made' n : Nat) : Prop where
  mv : MV W Y m b v F' next cs' made' n
  ae : AtE cs cs' next ch C
  ne : ∀ a ∈ ch obj, cellN cs' (a + 1) ≠ 0
  val : ∃ lst, Blk Y p 104 lst ∧ lst[9]? = some (.int .u64 ((atRes cs' s (ch obj) : Nat) : Int))
  kept : ∀ j, j < X.heap.size → ¬ F j → j ≠ v → j ≠ p → Y.heap[j]? = X.heap[j]? ∧ ¬ F' j
set_option maxHeartbeats 2000000 in
theorem at_alone {W X : World} {m b v : Nat} {F : Nat → Prop} {next : Nat} {cs : List Nat} {made n : Nat} {ch : Nat → List Nat} {obj s C p : Nat} (h : MV W X m b v F next cs made n) (hp : ¬ F p) (hpv : p ≠ v) (hpm : p ≠ m) (hpW : W.heap.size ≤ p) (hB : Blk X p 104 (fndL 1 0 0 (.pointer none) obj 0 0 [.int .u64 (s : Int), .int .u8 0, .int .u64 0])) (g : GI next cs ch) (ho : isO obj) (hC : cellN cs 1 = C) (hs : s < C) (hm : made ≤ 10000000) (hn : n ≤ 10000000) :
    Calls Try.prog 19 #[.pointer (some ⟨v, 0, none⟩), .iface 54 (.pointer (some ⟨p, 0, none⟩)), .int .i64 1099511627776] X fun e Y => e = .returned (.bool true) ∧ ∃ F' cs' made', AtX W X Y m b v p F F' next cs cs' ch obj s C made' (n + 60000) ∧ made' ≤ made + 60000 := by
  obtain ⟨l, B, hl⟩ := h.bank
  have hlen : (ch obj).length ≤ 16384 := Nat.le_trans (ch_len ((g.pw obj ho).imp (fun r => r.1)) (fun a ha => by have := g.vs obj ho a ha; omega)) g.nx.2.1
  have hCb : C < 18446744073709551616 := by rw [← hC]; exact B.cells 1
  have pl := lt_of hB
  have A0 : AS X X F (fun j => j = p) F (fun j => j = p) b v 16384 next 9 made cs (l.map Acc.bare) := ⟨⟨l, B, rfl⟩, h.view, h.nv, fun k e => by subst e; exact ⟨hp, hpv, pl⟩, Chg.refl _ _, fun k e => .inl e, fun k e => .inl e⟩
  have H0 : FH X (fun j => j = p) p 104 1 obj (atL ⟨⟨0, 0, 0, 0, 0⟩, s, 0, 0⟩) ⟨0, 0, 0, 0, 0⟩ := ⟨.pointer none, hB, ⟨⟨_, rfl⟩, fun z => by rcases z with z | z <;> simp at z⟩, rfl⟩
  have key := alone_falls (.iface 54 (.pointer (some ⟨p, 0, none⟩))) (.pointer (some ⟨v, 0, none⟩))
    (fun k w => ∃ F' D cs' made' t q, AS X w F (fun j => j = p) F' D b v 16384 next 9 made' cs' t ∧ FH w D p 104 1 obj (atL q) q.f ∧ q.aok ∧ AtE cs cs' next ch C ∧ AtI cs' (ch obj) s C q k ∧ made' + k ≤ made + 3 * (ch obj).length + 10 ∧ t.length + k ≤ n + 3 * (ch obj).length + 10)
    (fun Y => ∃ F' cs' made', AtX W X Y m b v p F F' next cs cs' ch obj s C made' (n + 60000) ∧ made' ≤ made + 60000)
    (3 * (ch obj).length + 10) 1099511627776 (by omega) (by omega) X ⟨F, _, cs, made, _, ⟨⟨0, 0, 0, 0, 0⟩, s, 0, 0⟩, A0, H0, ⟨.inl ⟨rfl, .inl rfl⟩, by simp, by simp⟩, AtE.refl g hC, ⟨rfl, rfl, .inl ⟨rfl, rfl, rfl⟩⟩, by omega, by simp; omega⟩ ?_
  · exact key
  · rintro k w hk ⟨F', D, cs', made', t, q, A, H, ok, AE, I, b1, b2⟩
    obtain ⟨e1, e2, e3⟩ := at_stepP (th := 9) AE.gi ho AE.cam hs I _ rfl
    have st := atK.step 0 w F' D b v 16384 next 9 made' cs' t (.iface 54 (.pointer (some ⟨p, 0, none⟩))) ⟨1, obj, q⟩ A.base ⟨p, rfl, H, fun j e => (A.dis j e).2.2⟩ ⟨ok, (by show 1 < 18446744073709551616; omega), (by show obj < 18446744073709551616; have := ho.2; omega)⟩ (by omega) (by omega) (by omega)
    refine ⟨(atO 9 16384 next cs' 1 obj q).done, st.mono ?_⟩
    rintro e Y ⟨rfl, F'', D'', made'', A'', hmd, HY⟩
    refine ⟨rfl, ?_⟩
    have A2 := A.trans A''
    obtain ⟨p', ep, HF, _⟩ := HY
    simp at ep
    subst ep
    have few : (atO 9 16384 next cs' 1 obj q).acc.length ≤ 1 := atO_few 9 16384 next cs' 1 obj q
    have tl : (t ++ (atO 9 16384 next cs' 1 obj q).acc).length ≤ t.length + 1 := by rw [List.length_append]; omega
    rcases e3 with ⟨d, val, ne⟩ | ⟨d, j, hj, I'⟩
    · left
      refine ⟨d, F'', (atO 9 16384 next cs' 1 obj q).cs, made'', ⟨?_, AE.trans e2, ne, ?_, fun j h1 h2 h3 h4 => ?_⟩, by omega⟩
      · obtain ⟨l2, B2, L2⟩ := A2.bank
        have ll : l2.length ≤ n + 60000 := by
          have : l2.length = (t ++ (atO 9 16384 next cs' 1 obj q).acc).length := by have z := congrArg List.length L2; rw [List.length_map] at z; exact z
          omega
        have B3 : Bank Y F'' b 16384 next (atO 9 16384 next cs' 1 obj q).cs l2 := by
          have z : Bank Y F'' b 16384 (atO 9 16384 next cs' 1 obj q).next (atO 9 16384 next cs' 1 obj q).cs l2 := B2
          rw [e1] at z
          exact z
        have sz := h.chg.size
        refine ⟨h.mem.chg A2.chg (fun z => ?_), ⟨l2, B3, ll⟩, A2.view, A2.nv, fun z => ?_, h.vm, fun k z => ?_, h.vW, h.chg.trans A2.chg (fun _ _ x => x) (fun i hi z => ?_)⟩
        · rcases z with z | z | z
          · exact h.nm z
          · exact h.vm z.symm
          · exact hpm z.symm
        · exact (A2.newF m z).elim h.nm (fun y => by have := h.mem.lt; omega)
        · exact (A2.newF k z).elim (h.inF k) (fun y => by omega)
        · rcases z with z | z | z
          · have := h.inF i z; omega
          · have := h.vW; omega
          · omega
      · obtain ⟨lst, BB, _, l7⟩ := HF.cell
        refine ⟨lst, BB, ?_⟩
        rw [l7 2, ← val]
        rfl
      · exact ⟨A2.chg.block j h1 (fun z => z.elim h2 (fun z => z.elim h3 h4)), fun z => (A2.newF j z).elim h2 (fun y => by omega)⟩
    · right
      refine ⟨d, j, hj, F'', D'', (atO 9 16384 next cs' 1 obj q).cs, made'', (t ++ (atO 9 16384 next cs' 1 obj q).acc), (atO 9 16384 next cs' 1 obj q).s, ?_, HF, atO_ok (fun i => A.small i) ok d, AE.trans e2, I', by omega, by omega⟩
      have z : AS X Y F (fun j => j = p) F'' D'' b v 16384 (atO 9 16384 next cs' 1 obj q).next 9 made'' (atO 9 16384 next cs' 1 obj q).cs (t ++ (atO 9 16384 next cs' 1 obj q).acc) := A2
      rw [e1] at z
      exact z
theorem MV.put {W X : World} {m b v : Nat} {F : Nat → Prop} {next : Nat} {cs : List Nat} {made n : Nat} (h : MV W X m b v F next cs made n) {g : Nat} (gF : ¬ F g) (gW : W.heap.size ≤ g) (gv : g ≠ v) (gm : g ≠ m) (i : Nat) (u : Value) : MV W (X.setCell ⟨g, i, none⟩ u) m b v F next cs made n := by
  obtain ⟨l, B, hl⟩ := h.bank
  have c : Chg (fun k => k = g) X (X.setCell ⟨g, i, none⟩ u) := (Chg.refl (fun k => k = g) X).setCell (p := ⟨g, i, none⟩) (fun _ => rfl) u
  exact ⟨h.mem.chg c (fun e => gm e.symm), ⟨l, B.chg c (fun k hk e => gF (e ▸ hk)), hl⟩, h.view.chg c (fun e => gv e.symm), h.nv, h.nm, h.vm, h.inF, h.vW, h.chg.setCell (p := ⟨g, i, none⟩) (fun z => by simp only at z; omega) u⟩
/-- The law's own array beside the memory. -/
structure LS (W X : World) (m b v gw : Nat) (F : Nat → Prop) (next : Nat) (cs : List Nat) (ch : Nat → List Nat) (C s o made n : Nat) (wv : Nat → Nat) : Prop where
  mv : MV W X m b v F next cs made n
  gi : GI next cs ch
  cam : cellN cs 1 = C
  arr : X.heap[gw]? = some (.cells #[.int .u64 (wv 0 : Int), .int .u64 (wv 1 : Int), .int .u64 (wv 2 : Int)] 62 (0, 0))
  gF : ¬ F gw
  gW : W.heap.size ≤ gw
  gv : gw ≠ v
  gm : gw ≠ m
  told : ∀ p, p < o → wv p = atRes cs s (ch (p + 2)) ∧ ∀ a ∈ ch (p + 2), cellN cs (a + 1) ≠ 0
section
variable {W X Y X' : World} {m b v gw p : Nat} {F F' : Nat → Prop} {next : Nat} {cs cs' : List Nat} {ch : Nat → List Nat} {C s o made n made' n' : Nat} {wv : Nat → Nat}
theorem LS.quiet (h : LS W X m b v gw F next cs ch C s o made n wv) (c : Chg (fun _ => False) X Y) : LS W Y m b v gw F next cs ch C s o made n wv :=
  ⟨h.mv.quiet c, h.gi, h.cam, (c.block gw (lt_of h.arr) (fun x => x)).trans h.arr, h.gF, h.gW, h.gv, h.gm, h.told⟩
theorem arr_cell {X : World} {gw : Nat} {wv : Nat → Nat} (h : X.heap[gw]? = some (.cells #[.int .u64 (wv 0 : Int), .int .u64 (wv 1 : Int), .int .u64 (wv 2 : Int)] 62 (0, 0))) (i : Nat) (hi : i < 3) : X.cell? ⟨gw, i, none⟩ = some (.int .u64 (wv i : Int)) := by
  rw [cell_of h i]
  obtain rfl | rfl | rfl : i = 0 ∨ i = 1 ∨ i = 2 := by omega
  · rfl
  · rfl
  · rfl
theorem LS.arrY (h : LS W X m b v gw F next cs ch C s o made n wv) (c : Chg (fun _ => False) X X') {obj : Nat} (A : AtX W X' Y m b v p F F' next cs cs' ch obj s C made' n') (hp : p ≠ gw) : Y.heap[gw]? = some (.cells #[.int .u64 (wv 0 : Int), .int .u64 (wv 1 : Int), .int .u64 (wv 2 : Int)] 62 (0, 0)) ∧ ¬ F' gw := by
  have l := lt_of h.arr
  have k := A.kept gw (Nat.lt_of_lt_of_le l c.size) h.gF h.gv (fun e => hp e.symm)
  exact ⟨k.1.trans ((c.block gw l (fun x => x)).trans h.arr), k.2⟩
theorem LS.more (h : LS W X m b v gw F next cs ch C s o made n wv) (ho : o < 3) (c : Chg (fun _ => False) X X') (A : AtX W X' Y m b v p F F' next cs cs' ch (o + 2) s C made' n') (hp : p ≠ gw) (u : Nat) (hu : u = atRes cs' s (ch (o + 2))) : LS W (Y.setCell ⟨gw, o, none⟩ (.int .u64 (u : Int))) m b v gw F' next cs' ch C s (o + 1) made' n' (updN wv o u) := by
  obtain ⟨aY, gF'⟩ := h.arrY c A hp
  refine ⟨A.mv.put gF' h.gW h.gv h.gm o _, A.ae.gi, A.ae.cam, ?_, gF', h.gW, h.gv, h.gm, fun q hq => ?_⟩
  · rw [set_of aY o]
    obtain rfl | rfl | rfl : o = 0 ∨ o = 1 ∨ o = 2 := by omega
    · rfl
    · rfl
    · rfl
  · by_cases e : q = o
    · subst e; rw [updN_same]; exact ⟨hu, A.ne⟩
    · rw [updN_other _ _ _ _ e]
      have hq' : isO (q + 2) := ⟨by omega, by omega⟩
      obtain ⟨t1, t2⟩ := h.told q (by omega)
      have st : ∀ a ∈ ch (q + 2), cellN cs' (a + 1) = cellN cs (a + 1) := fun a ha => (A.ae.gr.val (q + 2) hq' a ha).2.2 (t2 a ha)
      exact ⟨t1.trans (atRes_congr (fun a ha => ⟨st a ha, (A.ae.gr.val (q + 2) hq' a ha).1⟩)).symm, fun a ha => by rw [st a ha]; exact t2 a ha⟩
end
/-- Behind the second run: what was told stands in the array. -/
structure LT (W X : World) (m b v gw : Nat) (F : Nat → Prop) (next : Nat) (cs2 cs : List Nat) (ch : Nat → List Nat) (made n : Nat) (wv : Nat → Nat) : Prop where
  mv : MV W X m b v F next cs made n
  ae : AtE cs2 cs next ch (cellN cs2 1)
  arr : X.heap[gw]? = some (.cells #[.int .u64 (wv 0 : Int), .int .u64 (wv 1 : Int), .int .u64 (wv 2 : Int)] 62 (0, 0))
  gF : ¬ F gw
  gv : gw ≠ v
theorem LT.quiet {W X Y : World} {m b v gw : Nat} {F : Nat → Prop} {next : Nat} {cs2 cs : List Nat} {ch : Nat → List Nat} {made n : Nat} {wv : Nat → Nat} (h : LT W X m b v gw F next cs2 cs ch made n wv) (c : Chg (fun _ => False) X Y) : LT W Y m b v gw F next cs2 cs ch made n wv :=
  ⟨h.mv.quiet c, h.ae, (c.block gw (lt_of h.arr) (fun x => x)).trans h.arr, h.gF, h.gv⟩
theorem LT.more {W X X' Y : World} {m b v gw p : Nat} {F F' : Nat → Prop} {next : Nat} {cs2 cs cs' : List Nat} {ch : Nat → List Nat} {made n made' n' obj s : Nat} {wv : Nat → Nat} (h : LT W X m b v gw F next cs2 cs ch made n wv) (c : Chg (fun _ => False) X X') (A : AtX W X' Y m b v p F F' next cs cs' ch obj s (cellN cs2 1) made' n') (hp : p ≠ gw) : LT W Y m b v gw F' next cs2 cs' ch made' n' wv := by
  have l := lt_of h.arr
  have k := A.kept gw (Nat.lt_of_lt_of_le l c.size) h.gF h.gv (fun e => hp e.symm)
  exact ⟨A.mv, h.ae.trans A.ae, k.1.trans ((c.block gw l (fun x => x)).trans h.arr), k.2, h.gv⟩
theorem Pst.first {Sx : Nat → Prop} {n0 : Nat} {W W3 X Z : World} {m b : Nat} {R : List ThrV} {picks : List Int} {k next : Nat} {cs : List Nat} {ch : Nat → List Nat} {sv : Value} {r : Nat} {cl vb : Nat → Nat} {pv : Nat → Nat → Value} {c0 : Cfg VP} {qv : Nat → Value} (h : REx Sx n0 W W3 m b R picks k next cs ch X sv r cl vb pv c0 Z qv) {C : Nat} (hC : cellN cs 1 = C) : Pst C next R.length ch cl c0 ch (fun _ => (R.length, 0)) := by
  refine ⟨h.inv, fun i j hi hj => ?_, by rw [h.cc, hC]; exact Nat.le_refl _, fun a _ => rfl, by rw [h.cn]; exact Nat.le_refl _, fun a _ _ _ z => z, fun a h1 h2 _ => by rw [h.cn] at h2; omega⟩
  have ht := List.getElem?_eq_getElem hi
  have hq := List.getElem?_eq_getElem (show j < (R[i]).ks.length by rw [← h.len i _ ht]; exact hj)
  rw [h.sg i j _ _ ht hq]
  unfold CallV.start
  split
  · intro z; simp at z
  · split
    · intro z; simp at z
    · split
      · intro z; simp at z
      · trivial
theorem rem_st (stamp C : Nat) (hC : 1 ≤ C) : ∃ s : Nat, s < C ∧ (stamp : Int).tmod (C : Int) = (s : Int) ∧ (stamp : Int) % (C : Int) = (s : Int) := by
  refine ⟨stamp % C, Nat.mod_lt _ (by omega), ?_, by simp⟩
  rw [Int.tmod_eq_emod_of_nonneg (by omega)]; simp
set_option maxRecDepth 100000 in
set_option maxHeartbeats 8000000 in
theorem past_walk (pt pp pt2 pp2 : Option Addr) (ct cp ct2 cp2 : Nat) (L L2 : List ThrV) (picks picks2 : List Int) (stamp : Nat) (w : World) (hT : ThsAt w pt L) (hP : IReads w pp picks) (hT2 : ThsAt w pt2 L2) (hP2 : IReads w pp2 picks2) (hn0 : L.length ≤ 1048576) (hn1 : picks.length ≤ 1048576) (hn02 : L2.length ≤ 1048576) (hn12 : picks2.length ≤ 1048576) (hst : stamp < 18446744073709551616) :
    Calls Try.prog 5 #[.agg #[.slice pt L.length ct, .slice pp picks.length cp], .agg #[.slice pt2 L2.length ct2, .slice pp2 picks2.length cp2], .int .u64 (stamp : Int)] w fun e w' => e = .returned (.bool true) ∧ Chg (fun _ => False) w w' := by
  have HT := keepH hT
  have HP := keepH hP
  have HT2 := keepH hT2
  have HP2 := keepH hP2
  clear hT hP hT2 hP2
  obtain ⟨W0, hW0⟩ : ∃ W0, W0 = (w.alloc (.cells #[.slice pt L.length ct, .slice pp picks.length cp] 25)).alloc (.cells #[.slice pt2 L2.length ct2, .slice pp2 picks2.length cp2] 25) := ⟨_, rfl⟩
  have C0 : Hid (Chg (fun _ => False) w W0) := by rw [hW0]; exact ((Chg.refl _ _).alloc _).alloc _
  have sz0 : Hid (W0.heap.size = w.heap.size + 2) := by rw [hW0]; simp [Hid]
  have hb0 : Hid (W0.heap[w.heap.size]? = some (.cells #[.slice pt L.length ct, .slice pp picks.length cp] 25 (0, 0))) := by rw [hW0]; exact alloc_of (heap_alloc_new _ _) _
  have hb1 : Hid (W0.heap[w.heap.size + 1]? = some (.cells #[.slice pt2 L2.length ct2, .slice pp2 picks2.length cp2] 25 (0, 0))) := by
    have e := heap_alloc_new (w.alloc (.cells #[.slice pt L.length ct, .slice pp picks.length cp] 25)) (.cells #[.slice pt2 L2.length ct2, .slice pp2 picks2.length cp2] 25)
    rw [show (w.alloc (.cells #[.slice pt L.length ct, .slice pp picks.length cp] 25)).heap.size = w.heap.size + 1 by simp] at e
    rw [hW0]; exact e
  go_enter Try.func5, Try.ntmps5
  go_wp2_with fail
  rw [← hW0]
  clear hW0
  refine (mem_16k W0).mono ?_
  rintro e W1 ⟨rfl, M1, ⟨F, l, B1, hl1, hF1, nm1⟩, C1⟩
  have HM1 := keepH M1
  have HB1 := keepH B1
  have HF1 := keepH hF1
  have HN1 := keepH nm1
  have HC1 := keepH C1
  have HL1 := keepH hl1
  clear M1 B1 hF1 nm1 C1 hl1
  obtain ⟨m, hm⟩ : ∃ m, m = W0.heap.size + 1 := ⟨_, rfl⟩
  obtain ⟨b, hb⟩ : ∃ b, b = W0.heap.size := ⟨_, rfl⟩
  have Hm : Hid (m = W0.heap.size + 1) := hm
  rw [← hm, ← hb] at HM1
  rw [← hm] at HN1
  rw [← hb] at HB1
  rw [← hm]
  clear hm hb
  go_wp2_with fail
  refine (vc_live _).mono ?_
  rintro e W2 ⟨rfl, C2⟩
  have HC2 : Hid (Chg (fun _ => False) W0 W2) := HC1.out.falls C2
  have HM2 := keepH (HM1.out.chg C2 (fun x => x))
  have HB2 := keepH (HB1.out.chg C2 (fun _ _ x => x))
  have hx2 : W2.heap[w.heap.size]? = some (.cells #[.slice pt L.length ct, .slice pp picks.length cp] 25 (0, 0)) := (HC2.out.block _ (lt_of hb0.out) (fun x => x)).trans hb0.out
  have x0 : W2.cell? ⟨w.heap.size, 0, none⟩ = some (.slice pt L.length ct) := cell_of hx2 0
  have x1 : W2.cell? ⟨w.heap.size, 1, none⟩ = some (.slice pp picks.length cp) := cell_of hx2 1
  clear C2 HM1 HB1 hx2
  go_wp2_with fail
  refine (v_honest pt pp ct picks.length cp L W2 (HT.out.chg (C0.out.falls HC2.out)) hn0).mono ?_
  rintro e W3 ⟨rfl, C3⟩
  have HC3 : Hid (Chg (fun _ => False) W0 W3) := HC2.out.falls C3
  have HM3 := keepH (HM2.out.chg C3 (fun x => x))
  have HB3 := keepH (HB2.out.chg C3 (fun _ _ x => x))
  have hx3 : W3.heap[w.heap.size + 1]? = some (.cells #[.slice pt2 L2.length ct2, .slice pp2 picks2.length cp2] 25 (0, 0)) := (HC3.out.block _ (lt_of hb1.out) (fun x => x)).trans hb1.out
  have y0 : W3.cell? ⟨w.heap.size + 1, 0, none⟩ = some (.slice pt2 L2.length ct2) := cell_of hx3 0
  have y1 : W3.cell? ⟨w.heap.size + 1, 1, none⟩ = some (.slice pp2 picks2.length cp2) := cell_of hx3 1
  clear C3 HM2 HB2 x0 x1 hx3
  cases hh : honB L
  · go_wp2_with fail
    go_ret
    exact ⟨by simp, C0.out.falls HC3.out⟩
  · go_wp2_with fail
    refine (v_honest pt2 pp2 ct2 picks2.length cp2 L2 W3 (HT2.out.chg (C0.out.falls HC3.out)) hn02).mono ?_
    rintro e W4 ⟨rfl, C4⟩
    have HC4 : Hid (Chg (fun _ => False) W0 W4) := HC3.out.falls C4
    have HM4 := keepH (HM3.out.chg C4 (fun x => x))
    have HB4 := keepH (HB3.out.chg C4 (fun _ _ x => x))
    have hx4 : W4.heap[w.heap.size]? = some (.cells #[.slice pt L.length ct, .slice pp picks.length cp] 25 (0, 0)) := (HC4.out.block _ (lt_of hb0.out) (fun x => x)).trans hb0.out
    have x0 : W4.cell? ⟨w.heap.size, 0, none⟩ = some (.slice pt L.length ct) := cell_of hx4 0
    have x1 : W4.cell? ⟨w.heap.size, 1, none⟩ = some (.slice pp picks.length cp) := cell_of hx4 1
    clear C4 HM3 HB3 hx4 y0 y1
    cases hh2 : honB L2
    · go_wp2_with fail
      go_ret
      exact ⟨by simp, C0.out.falls HC4.out⟩
    · obtain ⟨hk, h64, h4k⟩ := honB_out hh
      obtain ⟨hk2, h642, h4k2⟩ := honB_out hh2
      have HK2 := keepH hk2
      have H642 := keepH h642
      have H4k2 := keepH h4k2
      have hmW : W0.heap.size ≤ m := by have := Hm.out; omega
      have hl16 : l.length ≤ 16000000 := by rw [HL1.out]; omega
      have HRun := keepH (v_runx pt pp ct cp L picks picks W0 W4 m b 5 F [0, 1, 0, 0, 0] l (fun _ => []) HC4.out (HT.out.chg C0.out) (HP.out.chg C0.out) (fun i x h => h) hn1 HM4.out HB4.out hl16 HF1.out hmW HN1.out (fun _ => False) (fun k e => e.elim) hk h64 h4k GI.first)
      clear hk h64 h4k hk2 h642 h4k2 hh hh2 hl16
      go_wp2_with fail
      refine HRun.out.mono ?_
      rintro e W5 ⟨sv, r, R, cl, vb, pv, c0, Z, qv, rfl, hR, E⟩
      obtain ⟨F1, M5⟩ := E.fin (fun j e => e.elim)
      obtain ⟨ch1, own1, V1⟩ := E.inv.run (picks.take picks.length)
      obtain ⟨c1, hc1⟩ : ∃ c, c = c0.run vcK 16384 R.length cl (picks.take picks.length) := ⟨_, rfl⟩
      rw [← hc1] at M5 V1
      have HG5 := keepH V1.inv.gi
      have HM5 := keepH M5
      clear E V1 hc1 hR M5 HRun x0 x1
      go_wp2_with fail
      refine (m_view m b 9 _ HM5.out.mem).mono ?_
      rintro e X6 ⟨rfl, hX6⟩
      have c6 : Chg (fun _ => False) W5 X6 := by rw [hX6]; exact (Chg.refl _ _).alloc _
      obtain ⟨v, hv⟩ : ∃ v, v = W5.heap.size := ⟨_, rfl⟩
      have s6 : X6.heap.size = v + 1 := by rw [hX6, hv]; simp
      have MV6 : MV W0 X6 m b v F1 c1.next c1.cs 0 (l.length + picks.length) := by
        obtain ⟨l5, B5, hl5⟩ := HM5.out.bank
        have lm := HM5.out.mem.lt
        have sW := HM5.out.chg.size
        exact ⟨HM5.out.mem.chg c6 (fun x => x), ⟨l5, B5.chg c6 (fun _ _ x => x), hl5⟩, by rw [hX6, hv]; exact heap_alloc_new _ _, fun e => by have := B5.ltF v e; omega, HM5.out.nm, by omega, HM5.out.inF, by omega, HM5.out.chg.falls c6⟩
      have HMV := keepH MV6
      rw [← hv]
      have Hs6 := keepH s6
      clear hX6 hv c6 MV6 HM5 s6
      obtain ⟨l6, B6, hl6⟩ := HMV.out.bank
      have HB6 := keepH B6
      clear B6 hl6
      go_wp2_with fail
      refine (m_peek m b 16384 c1.next 1 F1 c1.cs l6 _ HMV.out.mem HB6.out (by omega)).mono ?_
      rintro e w7 ⟨rfl, rfl⟩
      obtain ⟨C, hC⟩ : ∃ C, C = cellN c1.cs 1 := ⟨_, rfl⟩
      have hC1 : 1 ≤ C := by rw [hC]; exact HG5.out.cam
      obtain ⟨s, hsC, hr1, hr2⟩ := rem_st stamp C hC1
      have zC : ¬ (C : Int) = 0 := by omega
      have zCb : ((C : Int) == 0) = false := by simpa using zC
      have hCb : C < 18446744073709551616 := by rw [hC]; exact HB6.out.cells 1
      have ws : IntKind.u64.wrap (s : Int) = (s : Int) := by rw [IntKind.wrap_u64]; omega
      obtain ⟨X7, hX7⟩ : ∃ X7, X7 = w7.alloc (.cells #[.int .u64 0, .int .u64 0, .int .u64 0] 62) := ⟨_, rfl⟩
      obtain ⟨gw, hgw⟩ : ∃ gw, gw = w7.heap.size := ⟨_, rfl⟩
      have HS7 : Hid (LS W0 X7 m b v gw F1 c1.next c1.cs ch1 C s 0 0 (l.length + picks.length) (fun _ => 0)) := by
        have c7 : Chg (fun _ => False) w7 X7 := by rw [hX7]; exact (Chg.refl _ _).alloc _
        obtain ⟨l5, B5, hl5⟩ := HMV.out.bank
        have lm := HMV.out.mem.lt
        have sW := HMV.out.chg.size
        have s6 := Hs6.out
        exact ⟨HMV.out.quiet c7, HG5.out, hC.symm, by rw [hX7, hgw]; exact heap_alloc_new _ _, fun e => by have := B5.ltF gw e; omega, by omega, by omega, by omega, fun p hp => by omega⟩
      rw [← hC]
      have HCe := keepH hC
      have hnb : l.length + picks.length ≤ 1100000 := by rw [HL1.out]; omega
      clear hC HG5 HMV HB6
      go_wp2_with fail
      rw [← hX7, ← hgw]
      clear hX7 hgw hr1 hr2 zC zCb
      go_loopw [14] (fun s14 wr => ∃ (o : Nat) (F2 : Nat → Prop) (cs2 : List Nat) (made n : Nat) (wv : Nat → Nat), o ≤ 3 ∧ s14 = .int .u64 (o : Int) ∧ made ≤ 60000 * o ∧ n ≤ l.length + picks.length + 60000 * o ∧ Hid (LS W0 wr m b v gw F2 c1.next cs2 ch1 C s o made n wv)) (fun s14 _ => 3 - (intOf s14).toNat)
      case atStart => exact ⟨0, F1, c1.cs, 0, _, _, by omega, rfl, by omega, Nat.le_refl _, HS7⟩
      case round =>
        obtain ⟨o, F2, cs2, made, n, wv, ho3, rfl, hmd, hnn, HS⟩ := hrel
        by_cases hlt : o < 3
        · have t1 : (o : Int) < 3 := by omega
          obtain ⟨o2, ho2⟩ : ∃ o2, o2 = o + 2 := ⟨_, rfl⟩
          have k2 : IntKind.u64.wrap (2 + (o : Int)) = (o2 : Int) := by rw [IntKind.wrap_u64]; omega
          have k3 : 2 + (o : Int) = (o2 : Int) := by omega
          have hIo : isO (o + 2) := ⟨by omega, by omega⟩
          have HO2 := keepH ho2
          have ho64 : o2 < 18446744073709551616 := by omega
          clear ho2
          go_wp2_with fail
          refine (at_new 1 o2 s _).mono ?_
          rintro e X8 ⟨p, hp8, rfl, B8, C8, s8⟩
          rw [HO2.out] at B8
          have HC8 := keepH C8
          have hpl : ¬ F2 p := fun e => by obtain ⟨lx, Bx, _⟩ := HS.out.mv.bank; have := Bx.ltF p e; omega
          have hpv : p ≠ v := by have := lt_of HS.out.mv.view; omega
          have hpm : p ≠ m := by have := HS.out.mv.mem.lt; omega
          have hpg : p ≠ gw := by have := lt_of HS.out.arr; omega
          have hpW : W0.heap.size ≤ p := by have := HS.out.mv.chg.size; omega
          have HAl := keepH (at_alone (HS.out.mv.quiet C8) hpl hpv hpm hpW B8 HS.out.gi hIo HS.out.cam hsC (by omega) (by omega))
          clear B8 C8 s8 hp8 hpl hpv hpm hpW
          go_wp2_with fail
          refine HAl.out.mono ?_
          rintro e Y ⟨rfl, F3, cs3, made3, A9, hmd3⟩
          have HA9 := keepH A9
          obtain ⟨lst, BV, l9⟩ := A9.val
          obtain ⟨u, hu⟩ : ∃ u, u = atRes cs3 s (ch1 (o + 2)) := ⟨_, rfl⟩
          rw [← hu] at l9
          have HU := keepH hu
          have aY := (HS.out.arrY HC8.out A9 hpg).1
          have cw : Y.cell? ⟨gw, o, none⟩ = some (.int .u64 (wv o : Int)) := arr_cell aY o hlt
          have fw : Y.frozen? ⟨gw, o, none⟩ = false := free_of aY o
          have HV := keepH (at_value (x := u) BV l9)
          have HSn := keepH (HS.out.more hlt HC8.out A9 hpg u hu)
          clear A9 BV l9 hu aY HAl
          go_wp2_with fail
          refine HV.out.mono ?_
          rintro e Y' ⟨rfl, rfl⟩
          obtain ⟨Y1, hY1⟩ : ∃ Y1, Y1 = Y'.setCell ⟨gw, o, none⟩ (.int .u64 (u : Int)) := ⟨_, rfl⟩
          rw [← hY1] at HSn
          obtain ⟨l9, B9, hl9⟩ := HSn.out.mv.bank
          have HB9 := keepH B9
          have HM9 := keepH HSn.out.mv.mem
          clear B9 hl9
          go_wp2_with fail
          rw [← hY1]
          clear hY1 cw fw HV
          refine (versions_any m b 16384 c1.next o2 F3 cs3 l9 _ HM9.out HB9.out ho64 (by omega)).mono ?_
          rintro e W9 ⟨K, uv, rfl, St9, V9⟩
          rw [HO2.out] at St9 V9
          have hK : K ≤ 16384 := St9.1
          obtain ⟨e1, e2⟩ := HSn.out.gi.stops hIo St9
          obtain ⟨pu, cu, hpu⟩ := slice_of V9.row
          subst hpu
          have HRV := keepH V9.row
          have HKe := keepH e1
          have HKn := keepH e2
          have HS9 := keepH (HSn.out.quiet V9.chg)
          have wk : IntKind.i64.wrap ((K : Int) - 1) = (K : Int) - 1 := by rw [IntKind.wrap_i64]; omega
          clear St9 V9 e1 e2 HB9 HM9
          go_wp2_with fail
          go_loopw [17, 18] (fun s17 s18 wr => ∃ r : Nat, r ≤ K ∧ s17 = .int .u64 ((atRes cs3 s ((ch1 (o + 2)).drop r) : Nat) : Int) ∧ s18 = .int .i64 ((r : Int) - 1) ∧ wr = W9) (fun _ s18 _ => (intOf s18 + 1).toNat)
          case atStart => exact ⟨K, Nat.le_refl _, by rw [HKe.out, List.drop_length]; rfl, rfl, rfl⟩
          case round =>
            obtain ⟨r, hr, rfl, rfl, rfl⟩ := hrel
            by_cases hr2 : 0 < r
            · obtain ⟨i, rfl⟩ : ∃ i, r = i + 1 := ⟨r - 1, by omega⟩
              obtain ⟨gv, dv, ev⟩ := slice_pos HRV.out (by omega)
              simp only [Value.slice.injEq] at ev
              obtain ⟨rfl, _, rfl⟩ := ev
              have hg := List.getElem?_eq_getElem (show i < (ch1 (o + 2)).length by have := HKe.out; omega)
              have en := HKn.out i _ hg
              obtain ⟨a, ha⟩ : ∃ a, a = (ch1 (o + 2))[i]'(by have := HKe.out; omega) := ⟨_, rfl⟩
              rw [← ha] at en
              have HDr : Hid (atRes cs3 s ((ch1 (o + 2)).drop i) = if cellN cs3 (a + 1) ≤ s then cellN cs3 a else atRes cs3 s ((ch1 (o + 2)).drop (i + 1))) := by
                show _ = _
                rw [List.drop_eq_getElem_cons (show i < (ch1 (o + 2)).length by have := HKe.out; omega), ← ha]
                rfl
              obtain ⟨r1, r2⟩ := verRow_get cs3 (o + 2) K i (by omega)
              rw [en] at r1 r2
              obtain ⟨va, hva⟩ : ∃ x, x = cellN cs3 a := ⟨_, rfl⟩
              obtain ⟨sa, hsa⟩ : ∃ x, x = cellN cs3 (a + 1) := ⟨_, rfl⟩
              rw [← hva] at r1 HDr
              rw [← hsa] at r2 HDr
              have cv : wr.cell? ⟨gv, i * 2, none⟩ = some (.int .u64 (va : Int)) := by rw [Nat.mul_comm i 2]; exact ver_cell HRV.out _ _ r1
              have cs' : wr.cell? ⟨gv, i * 2 + 1, none⟩ = some (.int .u64 (sa : Int)) := by rw [Nat.mul_comm i 2]; exact ver_cell HRV.out _ _ r2
              have e1 : ((i + 1 : Nat) : Int) - 1 = (i : Int) := by omega
              have e4 : IntKind.i64.wrap ((i : Int) - 1) = (i : Int) - 1 := by rw [IntKind.wrap_i64]; omega
              have ti0 : (0 : Int) ≤ (i : Int) := by omega
              have tiK : (i : Int) < (K : Int) := by omega
              obtain ⟨uw, huw⟩ : ∃ x, x = atRes cs3 s ((ch1 (o + 2)).drop (i + 1)) := ⟨_, rfl⟩
              rw [← huw] at HDr ⊢
              rw [e1]
              clear r1 r2 hva hsa hg en ha huw e1
              by_cases cc : sa ≤ s
              · have tc : (sa : Int) ≤ (s : Int) := by omega
                rw [if_pos cc] at HDr
                go_wp2_with fail
                exact ⟨⟨i, by omega, by rw [HDr.out], rfl, by first | rfl | trivial⟩, by simp [intOf]⟩
              · have tc : ¬ (sa : Int) ≤ (s : Int) := by omega
                rw [if_neg cc] at HDr
                go_wp2_with fail
                exact ⟨⟨i, by omega, by rw [HDr.out], rfl, by first | rfl | trivial⟩, by simp [intOf]⟩
            · obtain rfl : r = 0 := by omega
              have tn : ¬ (0 : Int) ≤ (0 : Int) - 1 := by omega
              rw [List.drop_zero, ← HU.out]
              have cw : wr.cell? ⟨gw, o, none⟩ = some (.int .u64 (u : Int)) := by have z := arr_cell HS9.out.arr o hlt; rw [updN_same] at z; exact z
              go_wp2_with fail
              exact ⟨⟨o + 1, F3, cs3, made3, _, _, by omega, by simp, by omega, by omega, HS9⟩, by simp [intOf]; omega⟩
        · have t1 : ¬ (o : Int) < 3 := by omega
          obtain rfl : o = 3 := by omega
          have hx5 : wr.heap[w.heap.size + 1]? = some (.cells #[.slice pt2 L2.length ct2, .slice pp2 picks2.length cp2] 25 (0, 0)) := (HS.out.mv.chg.block _ (lt_of hb1.out) (fun x => x)).trans hb1.out
          have y0 : wr.cell? ⟨w.heap.size + 1, 0, none⟩ = some (.slice pt2 L2.length ct2) := cell_of hx5 0
          have y1 : wr.cell? ⟨w.heap.size + 1, 1, none⟩ = some (.slice pp2 picks2.length cp2) := cell_of hx5 1
          obtain ⟨l2, B2, hl2⟩ := HS.out.mv.bank
          have hSx : ∀ k, (k = v ∨ k = gw) → k < wr.heap.size ∧ ¬ F2 k ∧ k ≠ m := fun k e => by
            rcases e with e | e
            · subst e; exact ⟨lt_of HS.out.mv.view, HS.out.mv.nv, HS.out.mv.vm⟩
            · subst e; exact ⟨lt_of HS.out.arr, HS.out.gF, HS.out.gm⟩
          have HRun2 := keepH (v_runx pt2 pp2 ct2 cp2 L2 picks2 picks2 W0 wr m b c1.next F2 cs2 l2 ch1 HS.out.mv.chg (HT2.out.chg C0.out) (HP2.out.chg C0.out) (fun i x h => h) hn12 HS.out.mv.mem B2 (by omega) HS.out.mv.inF hmW HS.out.mv.nm (fun j => j = v ∨ j = gw) hSx HK2.out H642.out H4k2.out HS.out.gi)
          have HSx := keepH hSx
          have hl2b : l2.length ≤ 2000000 := by omega
          clear hx5 B2 hl2 hSx
          go_wp2_with fail
          refine HRun2.out.mono ?_
          rintro e W9 ⟨sv2, r2, R2, cl2, vb2, pv2, c02, Z2, qv2, rfl, hR2, E2⟩
          obtain ⟨F4, M9⟩ := E2.fin (fun j e => (HSx.out j e).1)
          have gx := HS.out.gi.nx
          have hN : 5 ≤ c1.next ∧ c1.next % 3 = 2 := ⟨by omega, by omega⟩
          obtain ⟨ch2, own2, P2, G2⟩ := (Pst.first E2 HS.out.cam).run (picks2.take picks2.length) hN
          obtain ⟨c2, hc2⟩ : ∃ c, c = c02.run vcK 16384 R2.length cl2 (picks2.take picks2.length) := ⟨_, rfl⟩
          rw [← hc2] at M9 P2 G2
          rw [E2.cc] at G2
          have HL9 : Hid (LT W0 W9 m b v gw F4 c2.next c2.cs c2.cs ch2 made (l2.length + picks2.length) wv) := by
            have kv := M9.kept v (.inl rfl)
            have kg := M9.kept gw (.inr rfl)
            exact ⟨⟨M9.mem, M9.bank, kv.1.trans HS.out.mv.view, kv.2, M9.nm, HS.out.mv.vm, M9.inF, HS.out.mv.vW, M9.chg⟩, AtE.refl P2.inv.gi rfl, kg.1.trans HS.out.arr, kg.2, HS.out.gv⟩
          have HSame : Hid (∀ o cs3, o < 3 → AtE c2.cs cs3 c2.next ch2 (cellN c2.cs 1) → (∀ a ∈ ch2 (o + 2), cellN cs3 (a + 1) ≠ 0) → atRes cs3 s (ch2 (o + 2)) = wv o) := fun o cs3 ho A h3 => by
            obtain ⟨t1, t2⟩ := HS.out.told o ho
            rw [t1]
            exact past_same P2 hN G2 A ⟨by omega, by omega⟩ hsC t2 h3
          have hsC2 : s < cellN c2.cs 1 := Nat.lt_of_lt_of_le hsC P2.cam
          clear E2 M9 P2 G2 hc2 hR2 HRun2 gx hN HS y0 y1 HSx
          go_wp2_with fail
          go_loopw [19] (fun s19 wr => ∃ (o : Nat) (F5 : Nat → Prop) (cs3 : List Nat) (made n : Nat), o ≤ 3 ∧ s19 = .int .u64 (o : Int) ∧ made ≤ 60000 * (o + 3) ∧ n ≤ 4000000 + 60000 * o ∧ Hid (LT W0 wr m b v gw F5 c2.next c2.cs cs3 ch2 made n wv)) (fun s19 _ => 3 - (intOf s19).toNat)
          case atStart => exact ⟨0, F4, c2.cs, made, _, by omega, rfl, by omega, by omega, HL9⟩
          case round =>
            obtain ⟨o, F5, cs3, made, n, ho3, rfl, hmd, hnn, HL⟩ := hrel
            by_cases hlt : o < 3
            · have t1 : (o : Int) < 3 := by omega
              obtain ⟨o2, ho2⟩ : ∃ o2, o2 = o + 2 := ⟨_, rfl⟩
              have k2 : IntKind.u64.wrap (2 + (o : Int)) = (o2 : Int) := by rw [IntKind.wrap_u64]; omega
              have k3 : 2 + (o : Int) = (o2 : Int) := by omega
              have hIo : isO (o + 2) := ⟨by omega, by omega⟩
              have HO2 := keepH ho2
              have ho64 : o2 < 18446744073709551616 := by omega
              clear ho2
              go_wp2_with fail
              refine (at_new 1 o2 s _).mono ?_
              rintro e X8 ⟨p, hp8, rfl, B8, C8, s8⟩
              rw [HO2.out] at B8
              have HC8 := keepH C8
              have hpl : ¬ F5 p := fun e => by obtain ⟨lx, Bx, _⟩ := HL.out.mv.bank; have := Bx.ltF p e; omega
              have hpv : p ≠ v := by have := lt_of HL.out.mv.view; omega
              have hpm : p ≠ m := by have := HL.out.mv.mem.lt; omega
              have hpg : p ≠ gw := by have := lt_of HL.out.arr; omega
              have hpW : W0.heap.size ≤ p := by have := HL.out.mv.chg.size; omega
              have HAl : Hid (∀ wx, Chg (fun _ => False) X8 wx → Calls Try.prog 19 #[.pointer (some ⟨v, 0, none⟩), .iface 54 (.pointer (some ⟨p, 0, none⟩)), .int .i64 1099511627776] wx fun e Y => e = .returned (.bool true) ∧ ∃ F' cs' made', AtX W0 wx Y m b v p F5 F' c2.next cs3 cs' ch2 (o + 2) s (cellN c2.cs 1) made' (n + 60000) ∧ made' ≤ made + 60000) := fun wx h =>
                at_alone (HL.out.mv.quiet (C8.falls h)) hpl hpv hpm hpW ((h.block p (lt_of B8) (fun x => x)).trans B8) HL.out.ae.gi hIo HL.out.ae.cam hsC2 (by omega) (by omega)
              have hS0 : X8.drew.cell? ⟨gw, o, none⟩ = some (.int .u64 (wv o : Int)) := arr_cell (HL.out.quiet C8).arr o hlt
              clear B8 C8 s8 hp8 hpl hpv hpm hpW
              go_upto_region 35 with fail
              go_cut [137] from 125 to 136 (fun s137 wz => s137 = .bool false ∧ ∃ (F5 : Nat → Prop) (cs3 : List Nat) (made n : Nat), made ≤ 60000 * (o + 1 + 3) ∧ n ≤ 4000000 + 60000 * (o + 1) ∧ Hid (LT W0 wz m b v gw F5 c2.next c2.cs cs3 ch2 made n wv))
              case first =>
                refine wp_region_held_drew (S := (fun wd => wd.cell? ⟨gw, o, none⟩ = some (.int .u64 (wv o : Int)))) (by kernel_rfl) (hS0) ?_
                intro hHeld
                refine wpAnyH_take (i := 0) (v := ?_) rfl (by kernel_rfl) (by kernel_rfl) (by kernel_rfl) (fun _ _ _ h => h) (Or.inl ⟨by rfl, ?_⟩) hHeld ?_
                rotate_left
                · intro w hSw
                  (try dsimp only at hSw)
                  go_simp
                  try with_reducible rfl
                (try simp only [Act.put]); (try simp only [List.setIfInBounds_toArray]); (repeat (first | simp only [List.set_cons_succ] | simp only [List.set_cons_zero]))
                refine wpAnyH_take (i := 1) (v := ?_) rfl (by kernel_rfl) (by kernel_rfl) (by kernel_rfl) (fun _ _ _ h => h) (Or.inl ⟨by rfl, ?_⟩) hHeld ?_
                rotate_left
                · intro w hSw
                  (try dsimp only at hSw)
                  go_simp
                  try with_reducible rfl
                (try simp only [Act.put]); (try simp only [List.setIfInBounds_toArray]); (repeat (first | simp only [List.set_cons_succ] | simp only [List.set_cons_zero]))
                refine wpAnyH_take (i := 2) (v := ?_) rfl (by kernel_rfl) (by kernel_rfl) (by kernel_rfl) (fun _ _ _ h => h) (Or.inl ⟨by rfl, ?_⟩) hHeld ?_
                rotate_left
                · intro w hSw
                  (try dsimp only at hSw)
                  go_simp
                  try with_reducible rfl
                (try simp only [Act.put]); (try simp only [List.setIfInBounds_toArray]); (repeat (first | simp only [List.set_cons_succ] | simp only [List.set_cons_zero]))
                refine wpAnyH_ready (rs := [3]) (by kernel_rfl) (by simp) ?_
                refine AllReadyH.cons rfl (fun KK hKK => ?_) AllReadyH.nil
                go_simp
                go_at_call 19
                refine (HAl.out _ (by first | exact Chg.refl _ _ | exact (Chg.refl _ _).drew)).mono ?_
                rintro e Y ⟨rfl, F5, cs5, made5, A5, hmd5⟩
                have HLn := keepH (HL.out.more (HC8.out.falls (by first | exact Chg.refl _ _ | exact (Chg.refl _ _).drew)) A5 hpg)
                have hS5 : Y.cell? ⟨gw, o, none⟩ = some (.int .u64 (wv o : Int)) := arr_cell HLn.out.arr o hlt
                obtain ⟨lst, BV, l9⟩ := A5.val
                rw [HSame.out o cs5 hlt HLn.out.ae A5.ne] at l9
                have HV := keepH (at_value (x := wv o) BV l9)
                clear A5 BV l9
                try go_wp2_with fail
                refine hKK.out _ _ ?_ (fun hHeld => ?_)
                · exact hS5
                clear hKK KK
                (try simp only [Act.put]); (try simp only [List.setIfInBounds_toArray]); (repeat (first | simp only [List.set_cons_succ] | simp only [List.set_cons_zero]))
                refine wpAnyH_take (i := 4) (v := ?_) rfl (by kernel_rfl) (by kernel_rfl) (by kernel_rfl) (fun _ _ _ h => h) (Or.inl ⟨by rfl, ?_⟩) hHeld ?_
                rotate_left
                · intro w hSw
                  (try dsimp only at hSw)
                  go_simp
                  try with_reducible rfl
                (try simp only [Act.put]); (try simp only [List.setIfInBounds_toArray]); (repeat (first | simp only [List.set_cons_succ] | simp only [List.set_cons_zero]))
                refine wpAnyH_take (i := 5) (v := ?_) rfl (by kernel_rfl) (by kernel_rfl) (by kernel_rfl) (fun _ _ _ h => h) (Or.inl ⟨by rfl, ?_⟩) hHeld ?_
                rotate_left
                · intro w hSw
                  (try dsimp only at hSw)
                  go_simp
                  try with_reducible rfl
                (try simp only [Act.put]); (try simp only [List.setIfInBounds_toArray]); (repeat (first | simp only [List.set_cons_succ] | simp only [List.set_cons_zero]))
                refine wpAnyH_take (i := 6) (v := ?_) rfl (by kernel_rfl) (by kernel_rfl) (by kernel_rfl) (fun _ _ _ h => h) (Or.inl ⟨by rfl, ?_⟩) hHeld ?_
                rotate_left
                · intro w hSw
                  (try dsimp only at hSw)
                  go_simp
                  try with_reducible rfl
                (try simp only [Act.put]); (try simp only [List.setIfInBounds_toArray]); (repeat (first | simp only [List.set_cons_succ] | simp only [List.set_cons_zero]))
                refine wpAnyH_take (i := 8) (v := ?_) rfl (by kernel_rfl) (by kernel_rfl) (by kernel_rfl) (fun _ _ _ h => h) (Or.inl ⟨by rfl, ?_⟩) hHeld ?_
                rotate_left
                · intro w hSw
                  (try dsimp only at hSw)
                  go_simp
                  try with_reducible rfl
                (try simp only [Act.put]); (try simp only [List.setIfInBounds_toArray]); (repeat (first | simp only [List.set_cons_succ] | simp only [List.set_cons_zero]))
                refine wpAnyH_take (i := 9) (v := ?_) rfl (by kernel_rfl) (by kernel_rfl) (by kernel_rfl) (fun _ _ _ h => h) (Or.inl ⟨by rfl, ?_⟩) hHeld ?_
                rotate_left
                · intro w hSw
                  (try dsimp only at hSw)
                  go_simp
                  try with_reducible rfl
                (try simp only [Act.put]); (try simp only [List.setIfInBounds_toArray]); (repeat (first | simp only [List.set_cons_succ] | simp only [List.set_cons_zero]))
                refine wpAnyH_take (i := 10) (v := ?_) rfl (by kernel_rfl) (by kernel_rfl) (by kernel_rfl) (fun _ _ _ h => h) (Or.inl ⟨by rfl, ?_⟩) hHeld ?_
                rotate_left
                · intro w hSw
                  (try dsimp only at hSw)
                  go_simp
                  try with_reducible rfl
                (try simp only [Act.put]); (try simp only [List.setIfInBounds_toArray]); (repeat (first | simp only [List.set_cons_succ] | simp only [List.set_cons_zero]))
                refine wpAnyH_ready (rs := [7]) (by kernel_rfl) (by simp) ?_
                refine AllReadyH.cons rfl (fun KK hKK => ?_) AllReadyH.nil
                go_simp
                go_at_call 20
                refine HV.out.mono ?_
                rintro e Y2 ⟨rfl, rfl⟩
                try go_wp2_with fail
                refine hKK.out _ _ ?_ (fun hHeld => ?_)
                · exact hS5
                clear hKK KK
                (try simp only [Act.put]); (try simp only [List.setIfInBounds_toArray]); (repeat (first | simp only [List.set_cons_succ] | simp only [List.set_cons_zero]))
                refine wpAnyH_take (i := 11) (v := ?_) rfl (by kernel_rfl) (by kernel_rfl) (by kernel_rfl) (fun _ _ _ h => h) (Or.inl ⟨by rfl, ?_⟩) hHeld ?_
                rotate_left
                · intro w hSw
                  (try dsimp only at hSw)
                  go_simp
                  try with_reducible rfl
                (try simp only [Act.put]); (try simp only [List.setIfInBounds_toArray]); (repeat (first | simp only [List.set_cons_succ] | simp only [List.set_cons_zero]))
                refine wpAnyH_take (i := 12) (v := ?_) rfl (by kernel_rfl) (by kernel_rfl) (by kernel_rfl) (fun _ _ _ h => h) (Or.inl ⟨by rfl, ?_⟩) hHeld ?_
                rotate_left
                · intro w hSw
                  (try dsimp only at hSw)
                  go_simp
                  try with_reducible rfl
                (try simp only [Act.put]); (try simp only [List.setIfInBounds_toArray]); (repeat (first | simp only [List.set_cons_succ] | simp only [List.set_cons_zero]))
                refine wpAnyH_done (by kernel_rfl) ?_ _
                go_simp
                try go_wp2_with fail
                go_meet
                exact ⟨by simp, F5, cs5, made5, _, by omega, by omega, HLn⟩
              case rest =>
                obtain ⟨rfl, F6, cs6, made6, n6, h1, h2, HL6⟩ := hcut
                go_wp2_with fail
                exact ⟨⟨o + 1, F6, cs6, made6, n6, by omega, by simp, by omega, by omega, HL6⟩, by simp [intOf]; omega⟩
            · have t1 : ¬ (o : Int) < 3 := by omega
              go_wp2_with fail
              go_ret
              exact ⟨by simp, C0.out.falls HL.out.mv.chg⟩
end Go.Proofs.Ytadbgmcfjemkeaa
