/- Texts of slots, pure: what is printed, what stands ahead of a blank and behind it, that a numeral reads back. -/
import Derived.Lib.ItoaNum
import Derived.Lib.ParseIntB
import Derived.Lib.Bytealg
namespace Go.Proofs.YtoldkjlcfgpnoaaDoor
open Go.Lib
set_option linter.unusedVariables false

def ktL : Nat → List UInt8
  | 0 => [102, 114, 101, 101]
  | 1 => [99, 108, 97, 105, 109, 101, 100]
  | 2 => [101, 97, 114, 108, 121]
  | _ => [101, 120, 97, 99, 116]
def prL (k g m : Nat) : List UInt8 := ktL k ++ 32 :: (decDigits g ++ 32 :: decDigits m)
def okS (k g m : Nat) : Prop := k ≤ 3 ∧ g < 1048576 ∧ m ≤ 1099511627776
instance (k g m : Nat) : Decidable (okS k g m) := by unfold okS; infer_instance
def prT (k g m : Nat) : List UInt8 := if okS k g m then prL k g m else []

def c1 (l : List UInt8) : List UInt8 := l.takeWhile (· != 32)
def c2 (l : List UInt8) : List UInt8 := (l.dropWhile (· != 32)).tail

def noSp (l : List UInt8) : Prop := ∀ x ∈ l, x ≠ 32
theorem c1_at {a b : List UInt8} (h : noSp a) : c1 (a ++ 32 :: b) = a := by
  unfold c1
  induction a with
  | nil => simp
  | cons x t ih =>
    have hx := h x (by simp)
    simp only [List.cons_append, List.takeWhile_cons]
    rw [if_pos (by simpa using hx), ih (fun y hy => h y (by simp [hy]))]
theorem c2_at {a b : List UInt8} (h : noSp a) : c2 (a ++ 32 :: b) = b := by
  unfold c2
  induction a with
  | nil => simp
  | cons x t ih =>
    have hx := h x (by simp)
    simp only [List.cons_append, List.dropWhile_cons]
    rw [if_pos (by simpa using hx), ih (fun y hy => h y (by simp [hy]))]
theorem c1_none {a : List UInt8} (h : noSp a) : c1 a = a := by
  unfold c1
  induction a with
  | nil => rfl
  | cons x t ih =>
    have hx := h x (by simp)
    rw [List.takeWhile_cons, if_pos (by simpa using hx), ih (fun y hy => h y (by simp [hy]))]
theorem c2_none {a : List UInt8} (h : noSp a) : c2 a = [] := by
  unfold c2
  induction a with
  | nil => rfl
  | cons x t ih =>
    have hx := h x (by simp)
    rw [List.dropWhile_cons, if_pos (by simpa using hx), ih (fun y hy => h y (by simp [hy]))]
/-- a text has no blank, or is cut at its first one -/
theorem c_cases (l : List UInt8) : (noSp l ∧ indexByte l 32 = -1) ∨ (∃ a b, noSp a ∧ l = a ++ 32 :: b ∧ indexByte l 32 = (a.length : Int)) := by
  induction l with
  | nil => exact Or.inl ⟨fun x h => by simp at h, rfl⟩
  | cons x t ih =>
    by_cases hx : x = 32
    · subst hx
      exact Or.inr ⟨[], t, fun y h => by simp at h, rfl, by simp [indexByte]⟩
    · rcases ih with ⟨h1, h2⟩ | ⟨a, b, ha, rfl, h2⟩
      · refine Or.inl ⟨fun y hy => ?_, ?_⟩
        · rcases List.mem_cons.mp hy with rfl | hy
          · exact hx
          · exact h1 y hy
        · simp [indexByte, hx, h2]
      · refine Or.inr ⟨x :: a, b, fun y hy => ?_, rfl, ?_⟩
        · rcases List.mem_cons.mp hy with rfl | hy
          · exact hx
          · exact ha y hy
        · simp only [indexByte, h2]
          rw [if_neg (by simpa using hx), if_neg (by simp)]
          simp

theorem kt_noSp (k : Nat) : noSp (ktL k) := by
  intro x hx
  match k with
  | 0 => revert x; decide
  | 1 => revert x; decide
  | 2 => revert x; decide
  | (n + 3) => revert x; show ∀ x ∈ [101, 120, 97, 99, 116], x ≠ (32 : UInt8); decide
theorem dig_ne (d : Nat) (h : d < 10) : UInt8.ofNat (48 + d) ≠ 32 := by
  intro e
  have := congrArg UInt8.toNat e
  simp [UInt8.toNat_ofNat'] at this
  omega
theorem dec_noSp (u : Nat) : noSp (decDigits u) := by
  induction u using Nat.strongRecOn with
  | _ u ih =>
    intro x hx
    rw [decDigits] at hx
    split at hx
    · rename_i h
      simp only [List.mem_singleton] at hx
      subst hx; exact dig_ne u h
    · rename_i h
      rcases List.mem_append.mp hx with hx | hx
      · exact ih (u / 10) (by omega) x hx
      · simp only [List.mem_singleton] at hx
        subst hx; exact dig_ne _ (Nat.mod_lt _ (by decide))
theorem kt_inj {a b : Nat} (ha : a ≤ 3) (hb : b ≤ 3) (h : ktL a = ktL b) : a = b := by
  have ha' : a = 0 ∨ a = 1 ∨ a = 2 ∨ a = 3 := by omega
  have hb' : b = 0 ∨ b = 1 ∨ b = 2 ∨ b = 3 := by omega
  rcases ha' with rfl | rfl | rfl | rfl <;> rcases hb' with rfl | rfl | rfl | rfl <;> first | rfl | (exfalso; revert h; decide)
theorem kt_ne (k : Nat) : ktL k ≠ [] := by
  match k with
  | 0 => simp [ktL]
  | 1 => simp [ktL]
  | 2 => simp [ktL]
  | (n + 3) => simp [ktL]

theorem pm_append (M : Nat) : ∀ (l r : List UInt8) (acc : Nat), parseUintM M acc (l ++ r) = (match parseUintM M acc l with | .ok a => parseUintM M a r | .syntax => .syntax | .range => .range)
  | [], r, acc => by simp [parseUintM]
  | c :: t, r, acc => by
    simp only [List.cons_append, parseUintM]
    split
    · split
      · rfl
      · split
        · rfl
        · exact pm_append M t r _
    · rfl
theorem pm_dec (u : Nat) (h : u < 18446744073709551616) : parseUintM 18446744073709551615 0 (decDigits u) = .ok u := by
  induction u using Nat.strongRecOn with
  | _ u ih =>
    rw [decDigits]
    split
    · rename_i h10
      have e : (UInt8.ofNat (48 + u)).toNat = 48 + u := by simp [UInt8.toNat_ofNat']; omega
      simp only [parseUintM, e]
      rw [if_pos (by omega), if_neg (by omega), if_neg (by omega)]
      congr 1; omega
    · rename_i h10
      have e : (UInt8.ofNat (48 + u % 10)).toNat = 48 + u % 10 := by simp [UInt8.toNat_ofNat']; omega
      rw [pm_append, ih (u / 10) (by omega) (by omega)]
      simp only [parseUintM, e]
      rw [if_pos (by omega), if_neg (by omega), if_neg (by omega)]
      congr 1; omega
theorem dec_ne (u : Nat) : decDigits u ≠ [] := by
  rw [decDigits]; split <;> simp
theorem pu_dec (u : Nat) (h : u < 18446744073709551616) : parseUintB 64 (decDigits u) = .ok u := by
  unfold parseUintB
  rw [if_neg (dec_ne u)]
  exact pm_dec u h

/-- what a slot's text says, piece by piece -/
theorem pr_c1 (k g m : Nat) : c1 (prL k g m) = ktL k := c1_at (kt_noSp k)
theorem pr_c2 (k g m : Nat) : c2 (prL k g m) = decDigits g ++ 32 :: decDigits m := c2_at (kt_noSp k)
theorem pr_g (k g m : Nat) : c1 (c2 (prL k g m)) = decDigits g := by rw [pr_c2]; exact c1_at (dec_noSp g)
theorem pr_m (k g m : Nat) : c2 (c2 (prL k g m)) = decDigits m := by rw [pr_c2]; exact c2_at (dec_noSp g)
theorem pr_inj {k g m k' g' m' : Nat} (h : okS k g m) (h' : okS k' g' m') (e : prL k g m = prL k' g' m') : k = k' ∧ g = g' ∧ m = m' := by
  obtain ⟨h1, h2, h3⟩ := h
  obtain ⟨h1', h2', h3'⟩ := h'
  refine ⟨kt_inj h1 h1' (by rw [← pr_c1 k g m, e, pr_c1]), ?_, ?_⟩
  · have := congrArg (fun l => parseUintB 64 (c1 (c2 l))) e
    simp only [pr_g] at this
    rw [pu_dec g (by omega), pu_dec g' (by omega)] at this
    injection this
  · have := congrArg (fun l => parseUintB 64 (c2 (c2 l))) e
    simp only [pr_m] at this
    rw [pu_dec m (by omega), pu_dec m' (by omega)] at this
    injection this
theorem pr_ne (k g m : Nat) : prL k g m ≠ [] := by
  unfold prL; simp

/-- how the reading of a text ends: what it tells, and which error -/
def PRes (l : List UInt8) (k g m : Nat) (er : Int) : Prop := (er = 0 ∧ okS k g m ∧ l = prL k g m) ∨ (er = 52 ∧ k = 0 ∧ g = 0 ∧ m = 0 ∧ ∀ a b c, okS a b c → l ≠ prL a b c)
theorem PRes.one {l : List UInt8} {k g m k' g' m' : Nat} {er er' : Int} (h : PRes l k g m er) (h' : PRes l k' g' m' er') : k = k' ∧ g = g' ∧ m = m' ∧ er = er' := by
  rcases h with ⟨e, h1, h2⟩ | ⟨e, h1, h2, h3, h4⟩ <;> rcases h' with ⟨e', h1', h2'⟩ | ⟨e', h1', h2', h3', h4'⟩
  · obtain ⟨a, b, c⟩ := pr_inj h1 h1' (h2.symm.trans h2')
    exact ⟨a, b, c, e.trans e'.symm⟩
  · exact absurd h2 (h4' _ _ _ h1)
  · exact absurd h2' (h4 _ _ _ h1')
  · exact ⟨h1.trans h1'.symm, h2.trans h2'.symm, h3.trans h3'.symm, e.trans e'.symm⟩
/-- what is told, whatever the numbers are, if it prints as the text -/
theorem PRes.yes {l : List UInt8} {k g m : Nat} (h : prT k g m = l) (h0 : l ≠ []) : PRes l k g m 0 := by
  unfold prT at h
  split at h
  · rename_i ho; exact Or.inl ⟨rfl, ho, h.symm⟩
  · exact absurd h.symm h0
end Go.Proofs.YtoldkjlcfgpnoaaDoor
