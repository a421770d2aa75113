/- A runner whose last thread has nil procs, and no other any: its picks, its turns, to the end. -/
import Derived.Test.YtmckdefijcnhcabSNils
namespace Go.Proofs.Ytmckdefijcnhcab
open Go.RowKit Go.Shelf

def NM (m b : Nat) (X : World) (K : Nat → Prop) : Prop := ∃ F, IsMem X m b ∧ Bank X F b 128 1 [] [] ∧ K = (fun k => F k ∨ k = m)
theorem NM.keep {m b : Nat} {X Y : World} {K : Nat → Prop} (h : NM m b X K) (hs : X.heap.size ≤ Y.heap.size) (hk : ∀ k, K k → Y.heap[k]? = X.heap[k]?) : NM m b Y K := by
  obtain ⟨F, h1, h2, rfl⟩ := h
  exact ⟨F, (hk m (.inr rfl)).trans h1, h2.kept hs (fun k e => hk k (.inl e)), rfl⟩
theorem NM.lt {m b : Nat} {X : World} {K : Nat → Prop} (h : NM m b X K) (k : Nat) (hk : K k) : k < X.heap.size := by
  obtain ⟨F, h1, ⟨_, _, B⟩, rfl⟩ := h
  rcases hk with e | rfl
  · exact B.lt k e
  · exact h1.lt
theorem NM.mem {m b : Nat} {X : World} {K : Nat → Prop} (h : NM m b X K) : ∃ b F most next cs l, IsMem X m b ∧ Bank X F b most next cs l ∧ l.length = 0 ∧ (∀ k, F k → K k) ∧ K m := by
  obtain ⟨F, h1, h2, rfl⟩ := h
  exact ⟨b, F, 128, 1, [], [], h1, h2, rfl, fun k e => .inl e, .inr rfl⟩

/-- So many threads; the last one has so many nil procs, of which so many are done. -/
structure NRunAt (W X : World) (G K : Nat → Prop) (r m b T calls k : Nat) (vw : List Value) (tv ev av : Value) (ths : List Thr) (evs : List Ev) (ats : List Int) : Prop where
  run : RunAt X G r m vw tv ev av ths k evs ats
  mem : NM m b X K
  apart : ∀ j, G j → ¬ K j
  len : ths.length = T
  fst : ∀ (j : Nat) (t : Thr), ths[j]? = some t → j + 1 < T → t.calls = [] ∧ t.next = 0
  lst : ∀ (j : Nat) (t : Thr), ths[j]? = some t → j + 1 = T → t.calls = List.replicate calls .nilIface ∧ t.next = k
  vws : ∀ j, j < T → ∃ vb, vw[j]? = some (.pointer (some ⟨vb, 0, none⟩))
  evl : evs.length ≤ 2 * k
  atl : ats = []
  inW : ∀ j, G j ∨ K j → W.heap.size ≤ j
  chg : Chg (fun _ => False) W X
def NRun (W X : World) (r m b T calls k : Nat) : Prop := ∃ G K vw tv ev av ths evs ats, NRunAt W X G K r m b T calls k vw tv ev av ths evs ats

theorem NRunAt.drewN {W X : World} {G K : Nat → Prop} {r m b T calls k : Nat} {vw : List Value} {tv ev av : Value} {ths : List Thr} {evs : List Ev} {ats : List Int} (h : NRunAt W X G K r m b T calls k vw tv ev av ths evs ats) (q : Nat) : NRunAt W (X.drewN q) G K r m b T calls k vw tv ev av ths evs ats :=
  { h with run := h.run.kept (Nat.le_refl _) (fun _ _ => rfl), mem := h.mem.keep (Nat.le_refl _) (fun _ _ => rfl), chg := h.chg.trans (Goes.drewN X (fun _ => False) q).chg (fun _ _ x => x) (fun _ _ x => x) }
end Go.Proofs.Ytmckdefijcnhcab
