/- StepAlone: its first half, laid. -/
import Derived.Test.YtphlhpnhieomiaaYo
import Derived.Test.YtphlhpnhieomiaaSLive
namespace Go.Proofs.Ytphlhpnhieomiaa
open Go.RowKit Go.Shelf
set_option linter.unusedVariables false

/-- The law's own row of procs, which is wiped. -/
structure V7 (X : World) (g4 n b : Nat) (v7 vr : Value) : Prop where
  a : ∃ cur : Array Value, X.heap[g4]? = some (.cells cur 38 (0, 0)) ∧ cur[0]? = some v7
  bl : ∀ g, v7.ownBlock = some g → (∃ cur : Array Value, X.heap[g]? = some (.cells cur 40 (0, 0)) ∧ n ≤ cur.size) ∧ vr.ownBlock ≠ some g ∧ b + 5 ≤ g
  sh : ∃ p7 c7, v7 = .slice p7 n c7 ∧ (0 < n → ∃ g, p7 = some ⟨g, 0, none⟩)
theorem V7.set {X : World} {g4 n b g i : Nat} {v7 vr : Value} (h : V7 X g4 n b v7 vr) (hg : v7.ownBlock = some g) (u : Value) : V7 (X.setCell ⟨g, i, none⟩ u) g4 n b v7 vr := by
  obtain ⟨cur, a1, a2⟩ := h.a
  obtain ⟨⟨cu, b1, b2⟩, b3, b4⟩ := h.bl g hg
  refine ⟨⟨cur, (Below.heap_setCell _ _ _ g4 (fun e => typ_ne a1 b1 (by decide) e)).trans a1, a2⟩, fun g' hg' => ?_, h.sh⟩
  rw [hg] at hg'
  injection hg' with e
  subst e
  exact ⟨⟨_, set_of b1 i u, by simpa using b2⟩, b3, b4⟩
theorem V7.cells {X : World} {g4 n b g i : Nat} {v7 vr : Value} (h : V7 X g4 n b v7 vr) (hg : v7.ownBlock = some g) (hi : i < n) : (∃ u, X.cell? ⟨g, i, none⟩ = some u) ∧ X.frozen? ⟨g, i, none⟩ = false := by
  obtain ⟨⟨cu, b1, b2⟩, b3, b4⟩ := h.bl g hg
  exact ⟨⟨cu[i]'(by omega), by rw [cell_of b1 i]; simp [show i < cu.size by omega]⟩, free_of b1 i⟩
theorem V7.at0 {X : World} {g4 n b : Nat} {v7 vr : Value} (h : V7 X g4 n b v7 vr) : X.cell? ⟨g4, 0, none⟩ = some v7 := by
  obtain ⟨cur, a1, a2⟩ := h.a
  rw [cell_of a1 0]; exact a2
theorem S1.wipe {W X : World} {p : Option Addr} {l : List PlP} {lp : Nat → Option Addr} {lc pb : Nat → Nat} {b g4 g5 rb g i : Nat} {v7 v8 vr : Value} (h : S1 W X p l lp lc pb b g5 rb v8 vr) (h7 : V7 X g4 l.length b v7 vr) (hg : v7.ownBlock = some g) (u : Value) : S1 W (X.setCell ⟨g, i, none⟩ u) p l lp lc pb b g5 rb v8 vr :=
  h.on ((Chg.refl (fun k => k = g) X).setCell (p := ⟨g, i, none⟩) (fun _ => rfl) u) (fun k e => by
    subst e
    obtain ⟨⟨cu, b1, b2⟩, b3, b4⟩ := h7.bl k hg
    exact ⟨⟨cu, b1⟩, b3, b4⟩)
theorem s1_start {W W0 W1 W2 W4 W5 : World} {p : Option Addr} {l : List PlP} {lp : Nat → Option Addr} {lc pb : Nat → Nat} {b g4 g5 rb : Nat} {v7 v8 vr : Value} {o : Obj} (hP : PlansAt W W.heap.size p l lp lc) (c0 : Chg (fun _ => False) W W0) (eb : W0.heap.size = b) (m1 : IsMem W1 (b + 1) b) (b1 : Bank W1 (fun k => k = b) b 200 1 [] []) (c1 : Chg (fun _ => False) W0 W1) (z1 : W1.heap.size = b + 2)
    (m2 : RMem W2 (fun k => k = b + 2 ∨ k = b + 3) (b + 3) 200 1 [] []) (c2 : Chg (fun _ => False) W1 W2) (z2 : W2.heap.size = b + 4) (hD : PD (W2.alloc o) W4 l lp lc pb g4 g5 v7 v8) (c5 : Chg (fun _ => False) W4 W5) (hrb : W4.heap.size ≤ rb) (hrow : W5.heap[rb]? = some (.cells #[vr, .int .i64 0] 97 (0, 0))) (hrv : W5.ownsRow 0 40 1 vr l.length (ifL l pb l.length)) (hvr : ∀ k, vr.ownBlock = some k → W4.heap.size ≤ k) :
    S1 W W5 p l lp lc pb b g5 rb v8 vr ∧ V7 W5 g4 l.length b v7 vr := by
  have s0 := c0.size
  have z3 : (W2.alloc o).heap.size = b + 5 := by simp [z2]
  have s4 := hD.pb.chg.size
  have c25 : Chg (fun _ => False) W2 W5 := (((Chg.refl (fun _ => False) W2).alloc o).trans hD.pb.chg (H := fun _ => False) (fun _ _ x => x) (fun _ _ x => x)).trans c5 (fun _ _ x => x) (fun _ _ x => x)
  have c15 : Chg (fun _ => False) W1 W5 := c2.trans c25 (fun _ _ x => x) (fun _ _ x => x)
  have cW : Chg (fun _ => False) W W5 := (c0.trans c1 (H := fun _ => False) (fun _ _ x => x) (fun _ _ x => x)).trans c15 (fun _ _ x => x) (fun _ _ x => x)
  have kp : ∀ {k : Nat} {o : Obj}, W4.heap[k]? = some o → W5.heap[k]? = some o := fun hk => (c5.block _ (lt_of hk) (fun x => x)).trans hk
  obtain ⟨ca, a1, a2⟩ := hD.a
  obtain ⟨cb, q1, q2⟩ := hD.b
  obtain ⟨d1, d2⟩ := hD.lo
  have r7 := hD.pb.r7
  have r8 := hD.pb.r8
  rw [z3] at d1 d2 r7 r8 s4
  refine ⟨⟨(c15.block _ (by omega) (fun x => x)).trans m1, b1.chg c15 (fun _ _ x => x), RM.chg ⟨[], m2, rfl⟩ c25 (fun _ _ x => x), hP.chg (Nat.le_refl _) cW, ⟨cb, kp q1, q2⟩, rowB_kept r8 (fun g hg => c5.block g (r8.lt g hg).2 (fun x => x)), fun j q hq hn => ?_, fun j j' q q' h1 h2 h3 h4 h5 => hD.pb.inj j j' q q' h1 ((List.getElem?_eq_some_iff.1 h3).1) h2 h3 h4 h5, hrow, hrv, ⟨by omega, d2, by omega, fun k e => by have := hvr k e; omega⟩, cW⟩, ⟨⟨ca, kp a1, a2⟩, fun g hg => ?_, ?_⟩⟩
  · have := hD.pb.pr j q ((List.getElem?_eq_some_iff.1 hq).1) hq hn
    rw [z3] at this
    exact ⟨kp this.1, this.2⟩
  · obtain ⟨g0, g1⟩ := r7.lt g hg
    refine ⟨?_, fun e => by have := hvr g e; omega, g0⟩
    rcases r7.2 with ⟨e, _⟩ | ⟨g', cap, cur, e, _, hg', _, _, _, ht⟩
    · rw [e] at hg; simp [Value.ownBlock] at hg
    · rw [e] at hg
      obtain rfl : g' = g := by simpa [Value.ownBlock] using hg
      refine ⟨cur, kp hg', ?_⟩
      have e2 := congrArg List.length ht
      simp [ifL] at e2
      omega
  · rcases r7.2 with ⟨e, h0⟩ | ⟨g', cap, cur, e, _⟩
    · exact ⟨none, 0, by rw [e, h0], fun x => by omega⟩
    · exact ⟨_, cap, e, fun _ => ⟨g', rfl⟩⟩
end Go.Proofs.Ytphlhpnhieomiaa
