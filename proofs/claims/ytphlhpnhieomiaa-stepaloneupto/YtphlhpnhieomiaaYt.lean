/- StepAlone: the document's run, a step. -/
import Derived.Test.YtphlhpnhieomiaaYr
namespace Go.Proofs.Ytphlhpnhieomiaa
open Go.RowKit Go.Shelf
set_option linter.unusedVariables false

/-- The document's memory so far. -/
def DS (b : Nat) (w9 wr : World) (m : Mu) (t : List Acc) : Prop := Chg (R0 b) w9 wr ∧ ∃ R, RM wr R (b + 3) 200 m.next m.cs t ∧ ∀ k, R k → R0 b k ∨ w9.heap.size ≤ k
/-- And what the plan was told so far. -/
def DG (b : Nat) (w9 wr : World) (m : Mu) (t : List Acc) (got : List Nat) (gv : Value) : Prop := Chg (R0 b) w9 wr ∧ wr.ownsRow w9.heap.size 51 1 gv got.length (got.map u64V) ∧ ∃ R, RM wr R (b + 3) 200 m.next m.cs t ∧ (∀ k, R k → R0 b k ∨ w9.heap.size ≤ k) ∧ ∀ k, gv.ownBlock = some k → ¬ R k
theorem DS.start {b : Nat} {w9 : World} (h : RM w9 (R0 b) (b + 3) 200 1 [] []) : DS b w9 w9 ⟨1, []⟩ [] := ⟨Chg.refl _ _, _, h, fun k e => .inl e⟩
theorem DS.gets {b : Nat} {w9 wr : World} {m : Mu} {t : List Acc} (h : DS b w9 wr m t) : DG b w9 wr m t [] (.slice none 0 0) := by
  obtain ⟨c, R, h1, h2⟩ := h
  exact ⟨c, World.ownsRow_nil _ _ _ _, R, h1, h2, fun k e => by simp [Value.ownBlock] at e⟩
theorem DG.ds {b : Nat} {w9 wr : World} {m : Mu} {t : List Acc} {got : List Nat} {gv : Value} (h : DG b w9 wr m t got gv) : DS b w9 wr m t := by
  obtain ⟨c, _, R, h1, h2, _⟩ := h
  exact ⟨c, R, h1, h2⟩
theorem DS.quiet {b : Nat} {w9 wr wy : World} {m : Mu} {t : List Acc} (h : DS b w9 wr m t) (c : Chg (fun _ => False) wr wy) : DS b w9 wy m t := by
  obtain ⟨c0, R, h1, h2⟩ := h
  exact ⟨c0.trans c (fun _ _ x => x) (fun _ _ x => x.elim), R, h1.chg c (fun _ _ x => x), h2⟩
theorem DG.made {b : Nat} {w9 wr wy : World} {m m' : Mu} {t t' : List Acc} {got : List Nat} {gv : Value} (h : DG b w9 wr m t got gv) {R : Nat → Prop} (hR : RM wr R (b + 3) 200 m.next m.cs t) (h2 : ∀ k, R k → R0 b k ∨ w9.heap.size ≤ k) (h3 : ∀ k, gv.ownBlock = some k → ¬ R k) {R' : Nat → Prop} (hR' : RM wy R' (b + 3) 200 m'.next m'.cs t') (g : Goes wr wy R R') : DG b w9 wy m' t' got gv ∧ wy.ownsRow w9.heap.size 51 1 gv got.length (got.map u64V) := by
  obtain ⟨c, hrow, _⟩ := h
  have sz := c.size
  have hrow' : wy.ownsRow w9.heap.size 51 1 gv got.length (got.map u64V) := rowB_kept hrow (fun k e => g.chg.block k (hrow.lt k e).2 (h3 k e))
  refine ⟨⟨c.trans g.chg (fun _ _ x => x) (fun k hk e => (h2 k e).resolve_right (by omega)), hrow', R', hR', fun k e => (g.new k e).elim (h2 k) (fun q => .inr (by omega)), fun k e q => ?_⟩, hrow'⟩
  have := (hrow.lt k e).2
  rcases g.new k q with w | w
  · exact h3 k e w
  · omega
theorem DG.told {b : Nat} {w9 wy wz : World} {m : Mu} {t : List Acc} {got : List Nat} {gv gv' : Value} {r : Nat} {o : Obj} (h : DG b w9 wy m t got gv) (r1 : wz.ownsRow w9.heap.size 51 1 gv' (got.length + 1) (got.map u64V ++ [.int .u64 (r : Int)])) (r2 : (wy.alloc o).grownBy wz gv.ownBlock) (r4 : gv'.ownBlock = gv.ownBlock ∨ gv'.ownBlock = some (wy.alloc o).heap.size) : DG b w9 wz m t (got ++ [r]) gv' := by
  obtain ⟨c, hrow, R, hR, h2, h3⟩ := h
  have sz := c.size
  have c1 : Chg (fun k => gv.ownBlock = some k) wy wz := ((Chg.refl (fun k => gv.ownBlock = some k) wy).alloc o).grown r2 (fun k e _ => e)
  refine ⟨c.trans c1 (fun _ _ x => x) (fun k hk e => by have := (hrow.lt k e).1; omega), by simpa [u64V] using r1, R, hR.chg c1 (fun k e q => h3 k q e), h2, fun k e q => ?_⟩
  rcases r4 with w | w
  · exact h3 k (w ▸ e) q
  · have := hR.lt k q
    rw [w] at e
    simp at e
    omega
theorem dM_nx (l : List PlP) (n I S i : Nat) : (dM ⟨1, []⟩ l n I S i).next ≤ 200 := by
  unfold dM
  split
  · exact mF_next l (by decide) i
  · exact mS_nx (by decide) (fun ds {m} h => runM_next ds h) (mF_next l (by decide)) I S
theorem doL_len (q : PlP) (s : Nat) : (doL q s).length ≤ s := by unfold doL; split <;> simp; omega
/-- The next step of the plan, when it makes an access; when it makes none. -/
theorem nx_some {m : Mu} {q : PlP} {s : Nat} {d : DoP} (hn : q.none = false) (hd : q.L[s]? = some d) (h : isA d = true) : runM 200 m (doL q (s + 1)) = mkM 200 (runM 200 m (doL q s)) d ∧ runG 200 m (doL q (s + 1)) = runG 200 m (doL q s) ++ [mkR 200 (runM 200 m (doL q s)) d] ∧ runT 3 200 m (doL q (s + 1)) = runT 3 200 m (doL q s) ++ [mkA 3 200 (runM 200 m (doL q s)) d] := by
  rw [doL_next hn, hd]
  simp only
  rw [runM_snoc, runG_snoc, runT_snoc]
  refine ⟨rfl, ?_, ?_⟩
  · unfold mkG; rw [if_pos h]
  · unfold mkT; rw [if_pos h]
theorem nx_idle {m : Mu} {q : PlP} {s : Nat} {d : DoP} (hn : q.none = false) (hd : q.L[s]? = some d) (h : isA d = false) : runM 200 m (doL q (s + 1)) = runM 200 m (doL q s) ∧ runG 200 m (doL q (s + 1)) = runG 200 m (doL q s) ∧ runT 3 200 m (doL q (s + 1)) = runT 3 200 m (doL q s) := by
  rw [doL_next hn, hd]
  simp only
  rw [runM_snoc, runG_snoc, runT_snoc]
  refine ⟨mkM_idle h, ?_, ?_⟩
  · unfold mkG; rw [if_neg (by simp [h])]; simp
  · unfold mkT; rw [if_neg (by simp [h])]; simp
theorem nx_none {m : Mu} {q : PlP} {s : Nat} (hn : q.none = false) (hd : q.L.length ≤ s) : runM 200 m (doL q (s + 1)) = runM 200 m (doL q s) ∧ runG 200 m (doL q (s + 1)) = runG 200 m (doL q s) ∧ runT 3 200 m (doL q (s + 1)) = runT 3 200 m (doL q s) := by
  rw [doL_next hn, List.getElem?_eq_none hd]
  simp
theorem pt_none {l : List PlP} {pb : Nat → Nat} {i : Nat} {q : PlP} (hq : l[i]? = some q) (hn : q.none = true) : (ptL l pb (i + 1)).length = (ptL l pb i).length := by
  rw [ptL_succ]; unfold ptO; simp [hq, hn]
theorem pt_some {l : List PlP} {pb : Nat → Nat} {i : Nat} {q : PlP} (hq : l[i]? = some q) (hn : q.none = false) : (ptL l pb (i + 1)).length = (ptL l pb i).length + 1 := by
  rw [ptL_succ]; unfold ptO; simp [hq, hn]
end Go.Proofs.Ytphlhpnhieomiaa
