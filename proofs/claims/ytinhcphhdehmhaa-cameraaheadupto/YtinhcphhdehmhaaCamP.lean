/- The camera's calls, by definition: what each step does, and what follows from it. -/
import Derived.WalkKit
namespace Go.Proofs.Ytinhcphhdehmhaa
open Go.RowKit

/-- A call as it stands: which one, its last stamp, how far it is, what it loaded, its error, whether it moved the cell, its first and last step. -/
structure PC where
  isNow : Bool
  most : Nat
  pos : Nat
  stamp : Nat
  err : Nat
  moved : Bool
  fr : Int
  tz : Int

def PC.fresh (isNow : Bool) (most i : Nat) : PC := ⟨isNow, most, 0, 0, 0, false, (i : Int), -1⟩
def PC.load (c : Nat) (x : PC) : PC := if x.isNow then { x with pos := 2, stamp := c } else if x.most ≤ c then { x with pos := 2, stamp := c, err := 31 } else { x with pos := 1, stamp := c }
def PC.step (ok : Bool) (c : Nat) (x : PC) : PC := if x.pos = 0 then x.load c else if x.pos = 1 then { x with pos := 2, moved := ok && decide (c = x.stamp) } else x
def PC.cell (ok : Bool) (c : Nat) (x : PC) : Nat := if x.pos = 1 ∧ ok = true ∧ c = x.stamp then x.stamp + 1 else c
def PC.mark (i : Nat) (x : PC) : PC := if x.pos = 2 then { x with tz := (i : Int) } else x
def PC.lb (x : PC) : Nat := if x.isNow then x.stamp else x.stamp + 1
def PC.told (x : PC) : Nat := if x.pos = 2 ∧ x.err = 0 then x.stamp else 0

theorem countP_put {α : Type} (p : α → Bool) (l : List α) (j : Nat) (x y : α) (h : l[j]? = some x) : (l.set j y).countP p + (if p x then 1 else 0) = l.countP p + (if p y then 1 else 0) := by
  induction l generalizing j with
  | nil => simp at h
  | cons a r ih =>
    cases j with
    | zero =>
      simp at h
      subst h
      simp only [List.set_cons_zero, List.countP_cons]
      omega
    | succ j =>
      have := ih j (by simpa using h)
      simp only [List.set_cons_succ, List.countP_cons]
      omega
theorem mem_put {α : Type} {l : List α} {j : Nat} {x y z : α} (h : l[j]? = some x) (hz : z ∈ l) : z = x ∨ z ∈ l.set j y := by
  obtain ⟨k, hk⟩ := List.mem_iff_getElem?.1 hz
  by_cases e : j = k
  · subst e
    rw [h] at hk
    exact .inl (Option.some.inj hk).symm
  · exact .inr (List.mem_iff_getElem?.2 ⟨k, by rw [List.getElem?_set_ne e]; exact hk⟩)
theorem mem_new {α : Type} {l : List α} {j : Nat} {x y : α} (h : l[j]? = some x) : y ∈ l.set j y := by
  have hj := (List.getElem?_eq_some_iff.1 h).1
  exact List.mem_iff_getElem?.2 ⟨j, by simp [List.getElem?_set_self hj]⟩

structure CI (ok : Bool) (first c i : Nat) (l : List PC) : Prop where
  fr : ∀ x ∈ l, 0 ≤ x.fr ∧ x.fr < (i : Int)
  tz : ∀ x ∈ l, (x.pos = 2 ∧ 0 ≤ x.tz ∧ x.tz < (i : Int)) ∨ (x.pos < 2 ∧ x.tz = -1)
  low : ∀ x ∈ l, x.pos ≠ 0 → first ≤ x.stamp ∧ x.stamp ≤ c
  zero : ∀ x ∈ l, x.pos < 2 → x.err = 0 ∧ x.moved = false
  now : ∀ x ∈ l, x.isNow = true → x.err = 0 ∧ x.moved = false ∧ x.pos ≠ 1
  one : ∀ x ∈ l, x.isNow = false → x.pos ≠ 0 → x.err = 0 → x.stamp < x.most
  above : ok = true → ∀ x ∈ l, x.isNow = false → x.pos = 2 → x.err = 0 → x.stamp < c
  mv : ∀ x ∈ l, x.moved = true → ok = true ∧ x.isNow = false ∧ x.pos = 2 ∧ x.err = 0
  cnt : c = first + l.countP (fun x => x.moved)
  top : c = first ∨ ∃ x ∈ l, x.isNow = false ∧ c ≤ x.most
  once : ∀ s, first ≤ s → s < c → l.countP (fun x => x.moved && (x.stamp == s)) = 1
  ahead : ok = true → ∀ a ∈ l, ∀ b ∈ l, 0 ≤ a.tz → a.err = 0 → a.tz < b.fr → b.pos ≠ 0 → a.lb ≤ b.stamp

theorem CI.base {ok : Bool} {first c i : Nat} {l : List PC} (h : CI ok first c i l) (ho : ok = true) (a : PC) (ha : a ∈ l) (ht : 0 ≤ a.tz) (he : a.err = 0) : a.lb ≤ c := by
  have hp : a.pos = 2 := by rcases h.tz a ha with x | x <;> omega
  unfold PC.lb
  cases hn : a.isNow
  · have := h.above ho a ha hn hp he
    simp
    omega
  · have := h.low a ha (by omega)
    simp
    omega
theorem CI.start (ok : Bool) (first : Nat) : CI ok first first 0 [] :=
  ⟨fun x hx => by simp at hx, fun x hx => by simp at hx, fun x hx => by simp at hx, fun x hx => by simp at hx, fun x hx => by simp at hx, fun x hx => by simp at hx, fun _ x hx => by simp at hx, fun x hx => by simp at hx, by simp, .inl rfl, fun s h1 h2 => by omega, fun _ a ha => by simp at ha⟩
theorem CI.later {ok : Bool} {first c i : Nat} {l : List PC} (h : CI ok first c i l) : CI ok first c (i + 1) l :=
  ⟨fun x hx => by have := h.fr x hx; omega, fun x hx => by rcases h.tz x hx with y | y <;> omega, h.low, h.zero, h.now, h.one, h.above, h.mv, h.cnt, h.top, h.once, h.ahead⟩
theorem CI.new {ok : Bool} {first c i : Nat} {l : List PC} (h : CI ok first c i l) (isNow : Bool) (most : Nat) : CI ok first c (i + 1) (l ++ [PC.fresh isNow most i]) := by
  have hm : ∀ x, x ∈ l ++ [PC.fresh isNow most i] → x ∈ l ∨ x = PC.fresh isNow most i := fun x hx => by simpa using hx
  have k := h.later
  refine ⟨fun x hx => ?_, fun x hx => ?_, fun x hx => ?_, fun x hx => ?_, fun x hx => ?_, fun x hx => ?_, fun ho x hx => ?_, fun x hx => ?_, ?_, ?_, fun s h1 h2 => ?_, fun ho a ha b hb h1 h2 h3 h4 => ?_⟩
  · rcases hm x hx with y | rfl
    · exact k.fr x y
    · simp [PC.fresh]; omega
  · rcases hm x hx with y | rfl
    · exact k.tz x y
    · simp [PC.fresh]
  · rcases hm x hx with y | rfl
    · exact k.low x y
    · simp [PC.fresh]
  · rcases hm x hx with y | rfl
    · exact k.zero x y
    · simp [PC.fresh]
  · rcases hm x hx with y | rfl
    · exact k.now x y
    · simp [PC.fresh]
  · rcases hm x hx with y | rfl
    · exact k.one x y
    · simp [PC.fresh]
  · rcases hm x hx with y | rfl
    · exact k.above ho x y
    · simp [PC.fresh]
  · rcases hm x hx with y | rfl
    · exact k.mv x y
    · simp [PC.fresh]
  · have := k.cnt
    simp [PC.fresh]
    omega
  · rcases k.top with y | ⟨x, hx, y⟩
    · exact .inl y
    · exact .inr ⟨x, by simp [hx], y⟩
  · have := k.once s h1 h2
    simp [PC.fresh]
    simpa using this
  · rcases hm b hb with y | rfl
    · rcases hm a ha with z | rfl
      · exact k.ahead ho a z b y h1 h2 h3 h4
      · simp [PC.fresh] at h1
    · simp [PC.fresh] at h4

/-- What a step leaves of a call. -/
theorem PC.keeps (ok : Bool) (c i : Nat) (x : PC) : ((x.step ok c).mark i).isNow = x.isNow ∧ ((x.step ok c).mark i).most = x.most ∧ ((x.step ok c).mark i).fr = x.fr := by
  unfold PC.step PC.load PC.mark
  refine ⟨?_, ?_, ?_⟩ <;> (split <;> (repeat' split) <;> rfl)

theorem CI.step {ok : Bool} {first c i : Nat} {l : List PC} (h : CI ok first c (i + 1) l) {j : Nat} {x : PC} (hj : l[j]? = some x) (hx : x.pos < 2) : CI ok first (x.cell ok c) (i + 1) (l.set j ((x.step ok c).mark i)) := by
  have hxl : x ∈ l := List.mem_of_getElem? hj
  obtain ⟨e0, m0⟩ := h.zero x hxl hx
  have fr0 := h.fr x hxl
  have hcnt := h.cnt
  have t0 : x.tz = -1 := by rcases h.tz x hxl with y | y <;> omega
  obtain ⟨y, hy⟩ : ∃ y, y = (x.step ok c).mark i := ⟨_, rfl⟩
  obtain ⟨kn, km, kf⟩ := PC.keeps ok c i x
  rw [← hy] at kn km kf ⊢
  have hmem : ∀ z, z ∈ l.set j y → z ∈ l ∨ z = y := fun z hz => List.mem_or_eq_of_mem_set hz
  have hcp := fun p => countP_put p l j x y hj
  by_cases p0 : x.pos = 0
  · have hc : x.cell ok c = c := by simp [PC.cell, p0]
    have ys : y.stamp = c := by rw [hy]; simp only [PC.step, p0, PC.load, PC.mark]; (repeat' split) <;> simp_all
    have ym : y.moved = false := by rw [hy]; simp only [PC.step, p0, PC.load, PC.mark]; (repeat' split) <;> simp_all
    have yp : (y.pos = 2 ∧ y.tz = (i : Int) ∧ (y.isNow = true ∧ y.err = 0 ∨ y.isNow = false ∧ y.err ≠ 0)) ∨ (y.pos = 1 ∧ y.tz = -1 ∧ y.err = 0 ∧ y.isNow = false ∧ c < y.most) := by
      rw [hy]; simp only [PC.step, p0, PC.load, PC.mark]
      cases hn : x.isNow
      · by_cases hm : x.most ≤ c
        · simp [hm]
        · simp [hm, e0, t0]
          omega
      · simp [e0]
    rw [hc]
    refine ⟨fun z hz => ?_, fun z hz => ?_, fun z hz => ?_, fun z hz => ?_, fun z hz => ?_, fun z hz => ?_, fun ho z hz => ?_, fun z hz => ?_, ?_, ?_, fun s h1 h2 => ?_, fun ho a ha b hb h1 h2 h3 h4 => ?_⟩
    · rcases hmem z hz with w | rfl
      · exact h.fr z w
      · rw [kf]; exact fr0
    · rcases hmem z hz with w | rfl
      · exact h.tz z w
      · rcases yp with w | w <;> omega
    · rcases hmem z hz with w | rfl
      · exact h.low z w
      · intro _; omega
    · rcases hmem z hz with w | rfl
      · exact h.zero z w
      · intro hp
        rcases yp with w | w
        · omega
        · exact ⟨w.2.2.1, ym⟩
    · rcases hmem z hz with w | rfl
      · exact h.now z w
      · intro hp
        rcases yp with w | w
        · rcases w.2.2 with v | v
          · exact ⟨v.2, ym, by omega⟩
          · simp [hp] at v
        · simp [hp] at w
    · rcases hmem z hz with w | rfl
      · exact h.one z w
      · intro hn hp he
        rcases yp with w | w
        · rcases w.2.2 with v | v
          · simp [hn] at v
          · exact absurd he v.2
        · omega
    · rcases hmem z hz with w | rfl
      · exact h.above ho z w
      · intro hn hp he
        rcases yp with w | w
        · rcases w.2.2 with v | v
          · simp [hn] at v
          · exact absurd he v.2
        · omega
    · rcases hmem z hz with w | rfl
      · exact h.mv z w
      · intro hm; simp [ym] at hm
    · have := hcp (fun x => x.moved)
      simp [ym, m0] at this
      omega
    · rcases h.top with w | ⟨z, hz, w⟩
      · exact .inl w
      · rcases mem_put (y := y) hj hz with rfl | v
        · exact .inr ⟨y, mem_new hj, by rw [kn]; exact w.1, by rw [km]; exact w.2⟩
        · exact .inr ⟨z, v, w⟩
    · have := hcp (fun x => x.moved && (x.stamp == s))
      simp [ym, m0] at this
      have o := h.once s h1 h2
      omega
    · rcases hmem a ha with w | rfl
      · rcases hmem b hb with v | rfl
        · exact h.ahead ho a w b v h1 h2 h3 h4
        · rw [ys]; exact h.base ho a w h1 h2
      · have hb2 : b.fr < ((i + 1 : Nat) : Int) := by
          rcases hmem b hb with v | rfl
          · exact (h.fr b v).2
          · rw [kf]; exact fr0.2
        rcases yp with w | w <;> omega
  · have p1 : x.pos = 1 := by omega
    have hn0 : x.isNow = false := by
      cases hn : x.isNow
      · rfl
      · exact absurd p1 (h.now x hxl hn).2.2
    have hlow := h.low x hxl p0
    have hone := h.one x hxl hn0 p0 e0
    have ye : y.pos = 2 ∧ y.tz = (i : Int) ∧ y.err = 0 ∧ y.stamp = x.stamp ∧ y.moved = (ok && decide (c = x.stamp)) := by
      rw [hy]; simp [PC.step, p1, PC.mark, e0]
    obtain ⟨yp, yt, ye, ys, ym⟩ := ye
    have hc : (x.cell ok c = c ∧ y.moved = false ∧ (ok = true → x.stamp < c)) ∨ (x.cell ok c = c + 1 ∧ y.moved = true ∧ ok = true ∧ x.stamp = c) := by
      simp only [PC.cell, p1, ym]
      cases ho : ok
      · simp
      · by_cases hs : c = x.stamp
        · simp [hs]
        · simp [hs]
          omega
    obtain ⟨c', hc'⟩ : ∃ c', c' = x.cell ok c := ⟨_, rfl⟩
    rw [← hc'] at hc ⊢
    have hle : c ≤ c' := by rcases hc with w | w <;> omega
    refine ⟨fun z hz => ?_, fun z hz => ?_, fun z hz => ?_, fun z hz => ?_, fun z hz => ?_, fun z hz => ?_, fun ho z hz => ?_, fun z hz => ?_, ?_, ?_, fun s h1 h2 => ?_, fun ho a ha b hb h1 h2 h3 h4 => ?_⟩
    · rcases hmem z hz with w | rfl
      · exact h.fr z w
      · rw [kf]; exact fr0
    · rcases hmem z hz with w | rfl
      · exact h.tz z w
      · omega
    · rcases hmem z hz with w | rfl
      · intro hp; have := h.low z w hp; omega
      · intro _; omega
    · rcases hmem z hz with w | rfl
      · exact h.zero z w
      · intro hp; omega
    · rcases hmem z hz with w | rfl
      · exact h.now z w
      · intro hp; rw [kn, hn0] at hp; simp at hp
    · rcases hmem z hz with w | rfl
      · exact h.one z w
      · intro _ _ _; rw [km]; omega
    · rcases hmem z hz with w | rfl
      · intro a1 a2 a3; have := h.above ho z w a1 a2 a3; omega
      · intro _ _ _
        rcases hc with w | w
        · have := w.2.2 ho; omega
        · omega
    · rcases hmem z hz with w | rfl
      · exact h.mv z w
      · intro hm
        rcases hc with w | w
        · simp [hm] at w
        · exact ⟨w.2.2.1, by rw [kn]; exact hn0, yp, ye⟩
    · have := hcp (fun x => x.moved)
      rcases hc with w | w
      · simp [w.2.1, m0] at this
        omega
      · simp [w.2.1, m0] at this
        omega
    · rcases hc with w | w
      · rcases h.top with v | ⟨z, hz, v⟩
        · exact .inl (by omega)
        · rcases mem_put (y := y) hj hz with rfl | u
          · exact .inr ⟨y, mem_new hj, by rw [kn]; exact v.1, by rw [km]; omega⟩
          · exact .inr ⟨z, u, v.1, by omega⟩
      · exact .inr ⟨y, mem_new hj, by rw [kn]; exact hn0, by rw [km]; omega⟩
    · have hs := hcp (fun x => x.moved && (x.stamp == s))
      rcases hc with w | w
      · simp [w.2.1, m0] at hs
        have o := h.once s h1 (by omega)
        omega
      · simp only [m0, w.2.1, ys, Bool.false_and, Bool.true_and] at hs
        by_cases hsc : s = c
        · have hz : l.countP (fun x => x.moved && (x.stamp == s)) = 0 := by
            rw [List.countP_eq_zero]
            intro z hz hm
            simp at hm
            obtain ⟨v1, v2, v3, v4⟩ := h.mv z hz hm.1
            have := h.above v1 z hz v2 v3 v4
            omega
          have e : (x.stamp == s) = true := by simp; omega
          simp [e] at hs
          omega
        · have e : (x.stamp == s) = false := by simp; omega
          simp [e] at hs
          have o := h.once s h1 (by omega)
          omega
    · rcases hmem a ha with w | rfl
      · rcases hmem b hb with v | rfl
        · exact h.ahead ho a w b v h1 h2 h3 h4
        · rw [ys]; exact h.ahead ho a w x hxl h1 h2 (by omega) p0
      · have hb2 : b.fr < ((i + 1 : Nat) : Int) := by
          rcases hmem b hb with v | rfl
          · exact (h.fr b v).2
          · rw [kf]; exact fr0.2
        omega
end Go.Proofs.Ytinhcphhdehmhaa
