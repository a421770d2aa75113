/- Runs of Cas, Takes, Cuts and Ats: each store of the trace leads to an older version (pure). -/
import Derived.Test.YtbjebnkfecjpnaaGm
namespace Go.Proofs.Ytbjebnkfecjpnaa
open Go.RowKit Go.Shelf
set_option linter.unusedVariables false

theorem kstep_nx (th : Int) (F : Nat) (l : List Nat) (most : Nat) (cs : List Nat) (s : CutS) : (kstep th F l most cs s).2.1.nx ≤ 7 := by
  unfold kstep
  split
  · simp only []; split <;> omega
  · split
    · simp
    · split
      · simp
      · split
        · exact ask_nx _ _
        · split
          · simp only []
            split
            · exact join_nx _
            · simp
          · split
            · exact ask_nx _ _
            · exact goOn_nx _
def LP.on : LP → Prop
  | .inr (.inr (.inl s)) => s.s.nx ≤ 6
  | _ => True
/-- A step of any of them. -/
theorem lp_pi {next : Nat} {cs vs : List Nat} {th : Int} {s : LP} (h : PI next cs vs) (hp : LP.pp vs s) (hon : LP.on s) (o : Out LP) (e : leavesK.stp th 4096 next cs s = o) :
    PI o.next o.cs (vs ++ vrsV o.acc) ∧ Fine vs o.acc ∧ LP.pp (vs ++ vrsV o.acc) o.s ∧ (o.done = false → LP.on o.s) := by
  subst e
  rcases s with s | s | s | s
  · obtain ⟨h1, h2, h3⟩ := cas_pi (th := th) h hp _ rfl
    exact ⟨h1, h2, h3, fun _ => trivial⟩
  · have hc : s.cell = 1 := hp
    show PI (tkO th 4096 next cs s).next (tkO th 4096 next cs s).cs (vs ++ vrsV (tkO th 4096 next cs s).acc) ∧ Fine vs (tkO th 4096 next cs s).acc ∧ (tkO th 4096 next cs s).s.cell = 1 ∧ _
    unfold tkO
    split
    · simp only [(fine_ld vs th cs _).2, List.append_nil]
      exact ⟨h, (fine_ld _ _ _ _).1, hc, fun _ => trivial⟩
    · simp only [(fine_cs vs th 4096 cs _ _ _).2, List.append_nil]
      rw [hc]
      exact ⟨h.cam, (fine_cs _ _ _ _ _ _ _).1, rfl, fun _ => trivial⟩
  · obtain ⟨h1, h2, h3⟩ := cut_pi (th := th) h hp hon _ rfl
    refine ⟨h1, h2, h3, fun hd => ?_⟩
    have hd' : ¬ (kstep th s.F s.l 4096 cs s.s).2.1.nx = 7 := of_decide_eq_false hd
    have := kstep_nx th s.F s.l 4096 cs s.s
    show (kstep th s.F s.l 4096 cs s.s).2.1.nx ≤ 6
    omega
  · obtain ⟨h1, h2, h3⟩ := at_pi (th := th) h hp _ rfl
    exact ⟨h1, h2, h3, fun _ => trivial⟩

def versOf (t : List Acc) : List Nat := vrsV (t.drop 1)
def Good (t : List Acc) : Prop := ∀ i x, 1 ≤ i → t[i]? = some x → x.kind = 2 → isV (versOf (t.take i)) x.a ∧ (∃ y ∈ versOf (t.take i), y + 2 = x.addr) ∧ x.a < x.addr
theorem versOf_app {t acc : List Acc} (h : 1 ≤ t.length) : versOf (t ++ acc) = versOf t ++ vrsV acc := by
  unfold versOf
  rw [List.drop_append_of_le_length h, vrsV_app]
theorem Good.more {t acc : List Acc} (h : Good t) (hl : 1 ≤ t.length) (hf : Fine (versOf t) acc) (ha : acc.length ≤ 1) : Good (t ++ acc) := by
  intro i x hi hx hk
  by_cases c : i < t.length
  · rw [List.getElem?_append_left c] at hx
    have := h i x hi hx hk
    rw [List.take_append_of_le_length (by omega)]
    exact this
  · rw [List.getElem?_append_right (by omega)] at hx
    have e : i = t.length := by
      have := (List.getElem?_eq_some_iff.1 hx).1
      omega
    subst e
    rw [List.take_left']
    · exact hf.st x (List.mem_of_getElem? hx) hk
    · rfl
/-- What stays over a run. -/
structure CInv (T : Nat) (cl : Nat → Nat) (c : Cfg LP) : Prop where
  pi : PI c.next c.cs (versOf c.t)
  pp : ∀ i j, i < T → j < cl i → LP.pp (versOf c.t) (c.σ i j)
  on : ∀ i j, i < T → j < cl i → c.ix i ≤ j → LP.on (c.σ i j)
  good : Good c.t
  vl : ∀ x ∈ c.t, x.vals.length ≤ 3
  t1 : 1 ≤ c.t.length
theorem CInv.pick {T : Nat} {cl : Nat → Nat} {c : Cfg LP} (h : CInv T cl c) (th : Int) : CInv T cl (c.pick leavesK 4096 T cl th) := by
  unfold Cfg.pick
  split
  · next c0 =>
    obtain ⟨i, rfl⟩ : ∃ i : Nat, th = (i : Int) := ⟨th.toNat, by omega⟩
    have hi : i < T := by omega
    have hj : c.ix i < cl i := by simpa using c0.2.2
    show CInv T cl (c.go leavesK 4096 i)
    obtain ⟨h1, h2, h3, h4⟩ := lp_pi (th := (i : Int)) h.pi (h.pp i (c.ix i) hi hj) (h.on i (c.ix i) hi hj (Nat.le_refl _)) (c.out leavesK 4096 i) rfl
    have fw : (c.out leavesK 4096 i).acc.length ≤ 1 := leavesK.few (i : Int) 4096 c.next c.cs (c.σ i (c.ix i))
    have ev : versOf (c.t ++ (c.out leavesK 4096 i).acc) = versOf c.t ++ vrsV (c.out leavesK 4096 i).acc := versOf_app h.t1
    refine ⟨?_, fun j q hj2 hq => ?_, fun j q hj2 hq hle => ?_, h.good.more h.t1 h2 fw, fun x hx => (List.mem_append.1 hx).elim (h.vl x) (h2.vl x), ?_⟩
    · show PI (c.out leavesK 4096 i).next (c.out leavesK 4096 i).cs (versOf (c.t ++ (c.out leavesK 4096 i).acc))
      rw [ev]; exact h1
    · show LP.pp (versOf (c.t ++ (c.out leavesK 4096 i).acc)) (updN c.σ i (updN (c.σ i) (c.ix i) (c.out leavesK 4096 i).s) j q)
      rw [ev]
      by_cases e : j = i
      · subst e
        rw [updN_same]
        by_cases e2 : q = c.ix j
        · subst e2; rw [updN_same]; exact h3
        · rw [updN_other _ _ _ _ e2]; exact (h.pp j q hj2 hq).mono
      · rw [updN_other _ _ _ _ e]; exact (h.pp j q hj2 hq).mono
    · show LP.on (updN c.σ i (updN (c.σ i) (c.ix i) (c.out leavesK 4096 i).s) j q)
      have hle' : updN c.ix i (if (c.out leavesK 4096 i).done then c.ix i + 1 else c.ix i) j ≤ q := hle
      by_cases e : j = i
      · subst e
        rw [updN_same] at hle' ⊢
        by_cases e2 : q = c.ix j
        · subst e2
          rw [updN_same]
          refine h4 ?_
          cases hd : (c.out leavesK 4096 j).done
          · rfl
          · rw [hd] at hle'; simp at hle'; omega
        · rw [updN_other _ _ _ _ e2]
          exact h.on j q hj2 hq (by split at hle' <;> omega)
      · rw [updN_other _ _ _ _ e] at hle' ⊢
        exact h.on j q hj2 hq hle'
    · show 1 ≤ (c.t ++ _).length
      have := h.t1
      rw [List.length_append]
      omega
  · exact h
theorem CInv.run {T : Nat} {cl : Nat → Nat} (picks : List Int) {c : Cfg LP} (h : CInv T cl c) : CInv T cl (c.run leavesK 4096 T cl picks) := by
  induction picks generalizing c with
  | nil => exact h
  | cons x r ih => exact ih (h.pick x)
end Go.Proofs.Ytbjebnkfecjpnaa
