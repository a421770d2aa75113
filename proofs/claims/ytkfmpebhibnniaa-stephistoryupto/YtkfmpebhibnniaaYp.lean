/- Plans: what their steps do to a memory, in plain numbers. -/
import Derived.Test.YtkfmpebhibnniaaOps
namespace Go.Proofs.Ytkfmpebhibnniaa
open Go.RowKit
set_option linter.unusedVariables false

structure DoP where
  kd : Int
  ad : Nat
  a : Nat
  b : Nat
  vals : List Nat
structure DoP.Ok (d : DoP) : Prop where
  kd : 0 ≤ d.kd ∧ d.kd < 256
  ad : d.ad < 18446744073709551616
  a : d.a < 18446744073709551616
  b : d.b < 18446744073709551616
  vals : ∀ x ∈ d.vals, x < 18446744073709551616
  len : d.vals.length ≤ 1099511627776
structure Mu where
  next : Nat
  cs : List Nat
def isA (d : DoP) : Bool := decide (1 ≤ d.kd) && decide (d.kd ≤ 5)
def mkR (most : Nat) (m : Mu) (d : DoP) : Nat :=
  if d.kd = 1 then cellN m.cs d.ad else if d.kd = 3 then (if casOk most m.cs d.ad d.a = true then 1 else 0) else if d.kd = 4 then cellN m.cs d.ad else if d.kd = 5 then alAt most m.next d.vals.length else 0
def mkM (most : Nat) (m : Mu) (d : DoP) : Mu :=
  if d.kd = 2 then ⟨m.next, stN most m.cs d.ad d.a⟩ else if d.kd = 3 then ⟨m.next, casN most m.cs d.ad d.a d.b⟩ else if d.kd = 4 then ⟨m.next, stN most m.cs d.ad (addN (cellN m.cs d.ad) d.a)⟩ else if d.kd = 5 then ⟨alNext most m.next d.vals.length, alN most m.next m.cs d.vals⟩ else m
def mkA (th : Int) (most : Nat) (m : Mu) (d : DoP) : Acc :=
  if d.kd = 1 then ⟨th, 1, d.ad, 0, 0, .slice none 0 0, [], cellN m.cs d.ad, false⟩ else if d.kd = 2 then ⟨th, 2, d.ad, d.a, 0, .slice none 0 0, [], 0, false⟩ else if d.kd = 3 then ⟨th, 3, d.ad, d.a, d.b, .slice none 0 0, [], 0, casOk most m.cs d.ad d.a⟩ else if d.kd = 4 then ⟨th, 4, d.ad, d.a, 0, .slice none 0 0, [], cellN m.cs d.ad, false⟩ else ⟨th, 5, alAt most m.next d.vals.length, 0, 0, .slice none 0 0, d.vals, 0, false⟩
def mkG (most : Nat) (m : Mu) (d : DoP) : List Nat := if isA d = true then [mkR most m d] else []
def mkT (th : Int) (most : Nat) (m : Mu) (d : DoP) : List Acc := if isA d = true then [mkA th most m d] else []
theorem mkM_idle {most : Nat} {m : Mu} {d : DoP} (h : isA d = false) : mkM most m d = m := by
  unfold isA at h
  have h2 : ¬ d.kd = 2 := fun e => by rw [e] at h; simp at h
  have h3 : ¬ d.kd = 3 := fun e => by rw [e] at h; simp at h
  have h4 : ¬ d.kd = 4 := fun e => by rw [e] at h; simp at h
  have h5 : ¬ d.kd = 5 := fun e => by rw [e] at h; simp at h
  unfold mkM
  rw [if_neg h2, if_neg h3, if_neg h4, if_neg h5]
def runM (most : Nat) (m : Mu) (ds : List DoP) : Mu := ds.foldl (mkM most) m
def runG (most : Nat) : Mu → List DoP → List Nat
  | _, [] => []
  | m, d :: r => mkG most m d ++ runG most (mkM most m d) r
def runT (th : Int) (most : Nat) : Mu → List DoP → List Acc
  | _, [] => []
  | m, d :: r => mkT th most m d ++ runT th most (mkM most m d) r
theorem runM_snoc (most : Nat) (m : Mu) (ds : List DoP) (d : DoP) : runM most m (ds ++ [d]) = mkM most (runM most m ds) d := by simp [runM]
theorem runG_snoc (most : Nat) : ∀ (m : Mu) (ds : List DoP) (d : DoP), runG most m (ds ++ [d]) = runG most m ds ++ mkG most (runM most m ds) d
  | m, [], d => by simp [runG, runM]
  | m, x :: r, d => by
    simp only [List.cons_append, runG]
    rw [runG_snoc most (mkM most m x) r d]
    simp [runM]
theorem runT_snoc (th : Int) (most : Nat) : ∀ (m : Mu) (ds : List DoP) (d : DoP), runT th most m (ds ++ [d]) = runT th most m ds ++ mkT th most (runM most m ds) d
  | m, [], d => by simp [runT, runM]
  | m, x :: r, d => by
    simp only [List.cons_append, runT]
    rw [runT_snoc th most (mkM most m x) r d]
    simp [runM]
theorem runG_len (most : Nat) : ∀ (m : Mu) (ds : List DoP), (runG most m ds).length ≤ ds.length
  | m, [] => by simp [runG]
  | m, x :: r => by
    have := runG_len most (mkM most m x) r
    simp only [runG, List.length_append, List.length_cons]
    have e : (mkG most m x).length ≤ 1 := by unfold mkG; split <;> simp
    omega
theorem runT_len (th : Int) (most : Nat) : ∀ (m : Mu) (ds : List DoP), (runT th most m ds).length ≤ ds.length
  | m, [] => by simp [runT]
  | m, x :: r => by
    have := runT_len th most (mkM most m x) r
    simp only [runT, List.length_append, List.length_cons]
    have e : (mkT th most m x).length ≤ 1 := by unfold mkT; split <;> simp
    omega
/-- A plan; its steps; what it does of its list with so many steps. -/
structure PlP where
  none : Bool
  L : List DoP
def nst (p : PlP) : Nat := if p.none = true then 1 else if p.L.length < 1 then 1 else p.L.length
def doL (p : PlP) (r : Nat) : List DoP := if p.none = true then [] else p.L.take r
theorem nst_pos (p : PlP) : 1 ≤ nst p := by unfold nst; split; omega; split <;> omega
theorem doL_all (p : PlP) {r : Nat} (h : nst p ≤ r) : doL p r = doL p (nst p) := by
  unfold doL
  split
  · rfl
  · rename_i hn
    unfold nst at h ⊢
    rw [if_neg hn] at h ⊢
    split at h
    · rename_i hl
      have e : p.L = [] := List.eq_nil_of_length_eq_zero (by omega)
      rw [e]; simp
    · rename_i hl
      rw [if_neg hl, List.take_of_length_le (by omega), List.take_of_length_le (by omega)]
theorem doL_zero (p : PlP) : doL p 0 = [] := by unfold doL; split <;> simp
theorem doL_succ (p : PlP) (s : Nat) : doL p (s + 1) = doL p s ++ (if p.none = true then [] else match p.L[s]? with | some d => [d] | none => []) := by
  unfold doL
  split
  · simp
  · rw [List.take_add_one]
    cases h : p.L[s]? <;> simp
def pre (l : List PlP) (i : Nat) : Nat := ((l.take i).map nst).sum
theorem pre_zero (l : List PlP) : pre l 0 = 0 := by simp [pre]
theorem pre_succ {l : List PlP} {i : Nat} {p : PlP} (h : l[i]? = some p) : pre l (i + 1) = pre l i + nst p := by
  unfold pre
  rw [List.take_add_one, h]
  simp
theorem pre_mono (l : List PlP) {i j : Nat} (h : i ≤ j) : pre l i ≤ pre l j := by
  induction j with
  | zero => have : i = 0 := by omega
            subst this; exact Nat.le_refl _
  | succ j ih =>
    by_cases e : i = j + 1
    · subst e; exact Nat.le_refl _
    · have := ih (by omega)
      cases hp : l[j]? with
      | none =>
        have : pre l (j + 1) = pre l j := by unfold pre; rw [List.take_add_one, hp]; simp
        omega
      | some p => rw [pre_succ hp]; omega
theorem pre_ge (l : List PlP) : ∀ i, i ≤ l.length → i ≤ pre l i := by
  intro i
  induction i with
  | zero => intro _; omega
  | succ i ih =>
    intro h
    have hp : l[i]? = some l[i] := List.getElem?_eq_getElem (by omega)
    rw [pre_succ hp]
    have := ih (by omega)
    have := nst_pos l[i]
    omega
/-- The memory behind the first i plans, each done to its end. -/
def mF (most : Nat) (m0 : Mu) (l : List PlP) : Nat → Mu
  | 0 => m0
  | i + 1 => match l[i]? with
    | some p => runM most (mF most m0 l i) (doL p (nst p))
    | none => mF most m0 l i
def tF (th : Int) (most : Nat) (m0 : Mu) (l : List PlP) : Nat → List Acc
  | 0 => []
  | i + 1 => match l[i]? with
    | some p => tF th most m0 l i ++ runT th most (mF most m0 l i) (doL p (nst p))
    | none => tF th most m0 l i
theorem tF_len (th : Int) (most : Nat) (m0 : Mu) (l : List PlP) : ∀ i, i ≤ l.length → (tF th most m0 l i).length ≤ pre l i := by
  intro i
  induction i with
  | zero => intro _; simp [tF]
  | succ i ih =>
    intro h
    have hp : l[i]? = some l[i] := List.getElem?_eq_getElem (by omega)
    simp only [tF, hp, List.length_append]
    rw [pre_succ hp]
    have h1 := ih (by omega)
    have h2 := runT_len th most (mF most m0 l i) (doL l[i] (nst l[i]))
    have h3 : (doL l[i] (nst l[i])).length ≤ nst l[i] := by unfold doL; split <;> simp <;> omega
    omega
/-- What the plan of number j was told when I plans are done and S steps of the next one. -/
def gF (most : Nat) (m0 : Mu) (l : List PlP) (I S j : Nat) : List Nat :=
  match l[j]? with
  | none => []
  | some p => if j < I then runG most (mF most m0 l j) (doL p (nst p)) else if j = I then runG most (mF most m0 l j) (doL p S) else []
def mS (most : Nat) (m0 : Mu) (l : List PlP) (I S : Nat) : Mu := match l[I]? with
  | none => mF most m0 l I
  | some p => runM most (mF most m0 l I) (doL p S)
def tS (th : Int) (most : Nat) (m0 : Mu) (l : List PlP) (I S : Nat) : List Acc := match l[I]? with
  | none => tF th most m0 l I
  | some p => tF th most m0 l I ++ runT th most (mF most m0 l I) (doL p S)
/-- I plans are done, and S steps of the next one. -/
structure Pos (l : List PlP) (k I S : Nat) : Prop where
  le : I ≤ l.length
  at_ : k = pre l I + S
  lt : ∀ p, l[I]? = some p → S < nst p
  z : l[I]? = none → S = 0
end Go.Proofs.Ytkfmpebhibnniaa
