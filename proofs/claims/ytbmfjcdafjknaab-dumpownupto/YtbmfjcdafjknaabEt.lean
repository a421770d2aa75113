/- Pairs lent, and whether they are still so. -/
import Derived.Test.YtbmfjcdafjknaabEm
namespace Go.Proofs.Ytbmfjcdafjknaab
open Go.RowKit Go.Joins Go.Maps
set_option linter.unusedVariables false

set_option maxRecDepth 100000 in
theorem app_pairsE {W : World} {B : Nat} {v : Value} {l : List (Nat × Nat)} (H : PRow W B v l) {q : Option Addr} {r : List (Nat × Nat)} (hq : PairsAt W q r) (hr : small64 r) (hok : q = none → r = []) (hl : l.length + r.length ≤ 8796093022000) (hB : B ≤ W.heap.size) (d : Nat) (ty : TypeId) :
    ∃ v' W', (Builtin.append_ #[22, 22] ty #[v, .slice q r.length d]).run Try.prog W = .ok v' W' ∧ PRow W' B v' (l ++ r) ∧ Chg (fun k => B ≤ k) W W' := by
  obtain ⟨i0, hi, hz0, hz1, hz2⟩ := info_parts infoPair
  have sm : small64 (l ++ r) := fun x hx => by
    rcases List.mem_append.1 hx with h | h
    · exact H.2 x h
    · exact hr x h
  cases q with
  | none =>
    obtain rfl := hok rfl
    refine ⟨v, W, ?_, by simpa using H, Chg.refl _ _⟩
    obtain ⟨_, ⟨rfl, e0⟩ | ⟨g, cap, cur, rfl, _, hg, hcap, _⟩⟩ := H.1
    · simp [Builtin.append_, run_underlying Try.underlying22, sizeOf, typeInfo, hi, Builtin.lenOf, Builtin.firstCells]
    · have q : ¬ cap < l.length := by omega
      simp [Builtin.append_, run_underlying Try.underlying22, sizeOf, typeInfo, hi, Builtin.lenOf, Builtin.firstCells, loadCells, storeCells, q]
  | some ad =>
    obtain ⟨v', w', hrun, h2, h3, h4, h5⟩ := run_append_own_at (P := Try.prog) W B 22 ty 59 i0 (.agg #[.int .u64 0, .int .u64 0]) 2 16 Try.underlying22 hi hz0 hz1 hz2 rfl (by decide) v l.length (prRow l) H.1 ad r.length d (prRow r) (prRow_len r) (fun j u hj => by
      obtain ⟨i, k, x, hk, h⟩ := prRow_inv r j u hj
      obtain ⟨bk, off, e, hb, hc⟩ := hq.resolve_left (by intro e; subst e; simp at hk)
      injection e with e
      subst e
      obtain ⟨_, _, q1, q2⟩ := hc i k x hk
      have e : (⟨bk, off, none⟩ : Addr).add j = ⟨bk, off + j, none⟩ := by unfold Addr.add; split <;> simp_all
      rw [e]
      rcases h with ⟨rfl, rfl⟩ | ⟨rfl, rfl⟩
      · exact q1
      · exact q2) (prRow_one r) (by unfold maxLen; omega) (by omega) hB
    have e : prRow l ++ prRow r = prRow (l ++ r) := by simp [prRow]
    rw [e] at h2
    refine ⟨v', w', hrun, ⟨by rw [List.length_append]; exact h2, sm⟩, (Chg.refl _ W).grown h3 (fun k e _ => (H.lt k e).1)⟩
theorem wpList_append_runE {P : Program} {w : World} {ops : Array Oper} {rest : List Oper} {o : Oper} {a : Act} {Q : Exit → Act → World → Prop} (hgd : o.guard = none) (s x : Operand) (t : TypeId)
    (ho : o.op = .call { callee := .builtin .append, args := #[s, x], argTypes := #[t, t] }) (v vx v' : Value) (w' : World) (hs : a.eval s = v) (hx : a.eval x = vx) (hr : (Builtin.append_ #[t, t] o.type #[v, vx]).run P w = .ok v' w')
    (h : wpList P ops Q rest (a.put o.dst v') w') : wpList P ops Q (o :: rest) a w := by
  refine wpList_plain hgd fun K hK => ?_
  unfold Oper.wp execOp
  simp only [ho, resolve, invoke, builtin, Sem.run_bind, Sem.run_pure, Result.andThen_ok, List.map_toArray, List.map_cons, List.map_nil, hs, hx, hr]
  exact hK _ _ h
theorem head_pairs (g m n cap : Nat) (h : n ≤ cap) : ∀ w, (Instr.slice 22 (.slice (some ⟨g, 0, none⟩) m cap) none (some (.int .i64 (n : Int))) none).run Try.prog w = .ok (.slice (some ⟨g, 0, none⟩) n cap) w := fun w => by
  have hb := run_sliceBound (P := Try.prog) (w := w) .i64 (n : Int) cap .sliceAcap (by omega) (by omega)
  simp [Instr.slice, run_underlying Try.underlying22, Instr.sliceBounds, Result.andThen, hb, Addr.add]
/-- What was lent: a row of one's own, with a marked pair behind. -/
def LentAt (W : World) (B : Nat) (g cap : Nat) (l : List (Nat × Nat)) : Prop := PRow W B (.slice (some ⟨g, 0, none⟩) (l.length + 1) cap) (l ++ [(77, 77)])
theorem LentAt.below {W W' : World} {B g cap : Nat} {l : List (Nat × Nat)} (h : LentAt W B g cap l) (b : Below W.heap.size W W') : LentAt W' B g cap l := ⟨h.1.kept (grown_none b) (by cases Value.ownBlock _ <;> simp), h.2⟩
theorem LentAt.pairs {W : World} {B g cap : Nat} {l : List (Nat × Nat)} (h : LentAt W B g cap l) : PairsAt W (some ⟨g, 0, none⟩) l := by
  obtain ⟨p, c, e, hat, _⟩ := PRow.slice h
  have e1 : p = some ⟨g, 0, none⟩ := by injection e with e; exact e.symm
  subst e1
  obtain ⟨bk, off, e2, hb, hc⟩ := hat.resolve_left (by simp)
  injection e2 with e2
  injection e2 with e3 e4
  subst e3
  subst e4
  exact .inr ⟨g, 0, rfl, hb, fun i k x hi => hc i k x (by rw [List.getElem?_append_left (List.getElem?_eq_some_iff.1 hi).1]; exact hi)⟩
theorem LentAt.mark {W : World} {B g cap : Nat} {l : List (Nat × Nat)} (h : LentAt W B g cap l) : W.cell? ⟨g, l.length * 2, none⟩ = some (.int .u64 77) ∧ W.cell? ⟨g, l.length * 2 + 1, none⟩ = some (.int .u64 77) ∧ l.length + 1 ≤ cap ∧ cap ≤ maxLen := by
  obtain ⟨p, c, e, hat, _⟩ := PRow.slice h
  have e1 : p = some ⟨g, 0, none⟩ := by injection e with e; exact e.symm
  subst e1
  obtain ⟨bk, off, e2, hb, hc⟩ := hat.resolve_left (by simp)
  injection e2 with e2
  injection e2 with e3 e4
  subst e3
  subst e4
  obtain ⟨_, _, c0, c1⟩ := hc l.length 77 77 (by simp)
  refine ⟨by simpa using c0, by simpa using c1, ?_⟩
  rcases h.1.2 with ⟨z, _⟩ | ⟨g', cap', cur, z, _, _, hcap, hmax, _⟩
  · cases z
  · injection z with z1 z2 z3
    subst z3
    simp at hcap
    exact ⟨hcap, hmax⟩
theorem lent_mk {W' : World} {B g cap : Nat} {l : List (Nat × Nat)} (hs : small64 l) (h : W'.ownsRow B 59 2 (.slice (some ⟨g, 0, none⟩) (l.length + 1) cap) (l.length + 1) (prRow l ++ [.int .u64 77, .int .u64 77])) : LentAt W' B g cap l := PRow.add hs (by omega) (by omega) h
theorem lent_bel {W W1 w3 : World} {v : Value} {l : List (Nat × Nat)} {o : Obj} (h : PRow W1 W.heap.size v l ∧ Below W.heap.size W W1) (r : (W1.alloc o).grownBy w3 v.ownBlock) : Below W.heap.size W w3 :=
  chg_belowE (((below_chgE h.2).alloc o).trans (grown_chgE (F := fun j => W.heap.size ≤ j) r (fun j e => (h.1.lt j e).1)) (fun _ _ x => x.elim) (fun _ _ x => x))
set_option maxRecDepth 100000 in
set_option maxHeartbeats 4000000 in
theorem lent_any {W : World} {p : Option Addr} {l : List (Nat × Nat)} (H : PairsAt W p l) (c : Nat) (hl : l.length ≤ 10000000) :
    Calls Try.prog 9 #[.slice p l.length c] W fun e W' => (∃ g cap, e = .returned (.slice (some ⟨g, 0, none⟩) l.length cap) ∧ LentAt W' W.heap.size g cap l) ∧ Below W.heap.size W W' := by
  obtain ⟨i0, hi, hz0, hz1, hz2⟩ := info_parts infoPair
  obtain ⟨v1, W1, hap, hr1, hc1⟩ := app_pairsE (PRow.nil W W.heap.size) H H.small (fun e => by rcases H with h | ⟨bk, off, e2, _⟩; exact h; rw [e] at e2; cases e2) (by simp; omega) (Nat.le_refl _) c 22
  have HR : Hid (PRow W1 W.heap.size v1 l ∧ Below W.heap.size W W1) := keepH ⟨by simpa using hr1, chg_belowE hc1⟩
  clear H hr1 hc1
  go_enter Try.func9, Try.ntmps9
  go_wp2_with (first | (at_builtin; refine wpList_append_runE rfl _ _ 22 rfl _ _ _ _ rfl rfl hap ?_; clear hap) | (at_builtin; go_loud (refine wpList_append_own_at _ rfl _ _ 22 rfl W.heap.size 59 i0 (.agg #[.int .u64 0, .int .u64 0]) 2 16 Try.underlying22 hi hz0 hz1 hz2 rfl (by decide) _ _ _ rfl (HR.out.1.1.kept (World.grownBy_alloc _ _ none) (by cases Value.ownBlock _ <;> simp)) ⟨_, 0, none⟩ 1 1 [.int .u64 77, .int .u64 77] rfl rfl (cells_newE _ _ rfl _ _) (by intro u hu; simp at hu; subst hu; rfl) (by unfold maxLen; omega) (by omega) (Nat.le_trans HR.out.2.size (by simp)) ?_); intro v' w3 r1 r2 r3 r4; obtain ⟨g, cap, rfl⟩ := ownsRow_succ r1; have HL : Hid (LentAt w3 W.heap.size g cap l ∧ Below W.heap.size W w3) := keepH ⟨lent_mk HR.out.1.2 r1, lent_bel HR.out r2⟩; clear r1 r2 r3 r4; have hsl := head_pairs g (l.length + 1) l.length cap (by have := HL.out.1.mark; omega)))
  go_ret
  exact ⟨⟨_, _, rfl, HL.out.1⟩, HL.out.2⟩
set_option maxRecDepth 100000 in
set_option maxHeartbeats 4000000 in
theorem kept_any {W : World} {p : Option Addr} {l : List (Nat × Nat)} {B g cap : Nat} (HL : LentAt W B g cap l) (H : PairsAt W p l) (c : Nat) (hl : l.length ≤ 10000000) :
    Calls Try.prog 13 #[.slice (some ⟨g, 0, none⟩) l.length cap, .slice p l.length c] W fun e W' => e = .returned (.bool true) ∧ Below W.heap.size W W' := by
  have hsl := head_pairs g l.length (l.length + 1) cap (HL.mark).2.2.1
  rw [show ((l.length + 1 : Nat) : Int) = (l.length : Int) + 1 by omega] at hsl
  have q := r_pairs (some ⟨g, 0, none⟩) p cap c l l W HL.pairs H (by omega) (by omega)
  rw [show decide (l = l) = true from decide_eq_true rfl] at q
  have HQ := keepH q
  have HM := keepH HL
  have hpe := fun w => pair_eql 77 77 77 77 (by omega) (by omega) (by omega) (by omega) w
  clear q HL H
  go_enter Try.func13, Try.ntmps13
  go_wp2_with (first | (go_at_call 8; refine HQ.out.mono ?_; clear HQ; rintro e W1 ⟨rfl, hC1⟩; have HB1 : Hid (Below W.heap.size W W1) := keepH (chg_belowE (hC1.mono (fun _ _ x => x.elim))); obtain ⟨m0, m1, _, _⟩ := (HM.out.below HB1.out).mark; clear hC1))
  go_ret
  exact ⟨rfl, HB1.out⟩
end Go.Proofs.Ytbmfjcdafjknaab
