/- A Cut of a row, alone; a list behind a list. -/
import Derived.Test.YtciohnfbjaglbaaKy
namespace Go.Proofs.Ytciohnfbjaglbaa
open Go.RowKit Go.Shelf
set_option linter.unusedVariables false

theorem alone_keeps {W : World} {m b v most : Nat} {w : World} {next made : Nat} {cs : List Nat} {t : List Acc} {E : Nat → Prop} {p F : Nat} {q : Option Addr} {d : Nat} {l : List Nat} {n : Nat} {st : List Nat} (h : KS W m b v 0 most w next made cs t E p F q d l (CutS.new (1 + 3 * n)))
    (hf : ∀ j, 0 < j → j < n → stA st j ≠ 0) (hn : n ≤ 1000) (hm : 3 * n + 2 < most) (hmo : most ≤ 4194304) (hr : RowC st n cs) (hl : ∀ j, j < n → cellN cs (aN n j + 2) = aN n (j + 1)) (hma : made ≤ 1000000) (hta : t.length ≤ 1000000) :
    Calls Try.prog 24 #[.pointer (some ⟨v, 0, none⟩), .iface 39 (.pointer (some ⟨p, 0, none⟩)), .int .i64 ((1099511627776 : Nat) : Int)] w fun e w' => e = .returned (.bool true) ∧ (∃ made' cs' t' s M, KS W m b v 0 most w' next made' cs' t' E p F q d l s ∧ PEnd F l st n cs' s M) ∧ ∀ k, E k → w'.heap[k]? = w.heap[k]? := by
  refine (alone_falls (.iface 39 (.pointer (some ⟨p, 0, none⟩))) (.pointer (some ⟨v, 0, none⟩)) (fun k x => ∃ made' cs' t' s, KS W m b v 0 most x next made' cs' t' E p F q d l s ∧ PInv F l st n cs' s k ∧ made' + k ≤ 2000000 ∧ t'.length + k ≤ 2000000 ∧ ∀ k, E k → x.heap[k]? = w.heap[k]?)
    (fun x => (∃ made' cs' t' s M, KS W m b v 0 most x next made' cs' t' E p F q d l s ∧ PEnd F l st n cs' s M) ∧ ∀ k, E k → x.heap[k]? = w.heap[k]?) (4 * n + 7) 1099511627776 (by omega) (by decide) w ⟨made, cs, t, _, h, .p0 rfl rfl rfl rfl hr hl, by omega, by omega, fun _ _ => rfl⟩ (fun k x hk hI => ?_))
  obtain ⟨made', cs', t', s, hK, hP, h1, h2, hE⟩ := hI
  obtain ⟨c1, c2, c3⟩ := hP.cnt_le
  have hs := pinv_step (th := 0) (most := most) hf hm hmo hP
  refine ⟨decide ((kstep 0 F l most cs' s).2.1.nx = 7), (so_step hK c2 (by omega) (by omega) (by omega)).mono ?_⟩
  rintro e y ⟨rfl, hK2, hE2⟩
  refine ⟨rfl, ?_⟩
  rcases hs with ⟨h7, M, hM⟩ | ⟨h7, u, hu, hP2⟩
  · exact .inl ⟨decide_eq_true h7, ⟨_, _, _, _, M, hK2, hM⟩, fun k e => (hE2 k e).trans (hE k e)⟩
  · exact .inr ⟨decide_eq_false h7, u, hu, _, _, _, _, hK2, hP2, by omega, by simp only [List.length_append, List.length_singleton]; omega, fun k e => (hE2 k e).trans (hE k e)⟩

/-- append of numbers that lie somewhere to a row of one's own. -/
theorem app_any {W : World} {v : Value} {xs l : List Nat} {p : Option Addr} {c : Nat} (hv : W.ownsRow 0 22 1 v xs.length (xs.map u64V)) (h : U64At W p l) (h63 : xs.length + l.length ≤ 1099511627776) (ty : TypeId) :
    ∃ v' W', (Builtin.append_ #[23, 23] ty #[v, .slice p l.length c]).run Try.prog W = .ok v' W' ∧ W'.ownsRow 0 22 1 v' (xs ++ l).length ((xs ++ l).map u64V) ∧ W.grownBy W' v.ownBlock ∧ (v'.ownBlock = v.ownBlock ∨ v'.ownBlock = some W.heap.size) := by
  obtain ⟨i0, hi, hz0, hz1, hz2⟩ := info_parts infoU64
  rcases h with rfl | ⟨bk, off, rfl, hb, hc⟩
  · refine ⟨v, W, ?_, by simpa using hv, ⟨rfl, rfl, rfl, Nat.le_refl _, fun _ _ _ => rfl⟩, .inl rfl⟩
    rcases hv.2 with ⟨rfl, h0⟩ | ⟨g, cap, cur, rfl, _, _, hnc, _⟩
    · exact run_append_empty (P := Try.prog) W 23 ty 22 i0 Try.underlying23 hi p c
    · cases p <;> simp [Builtin.append_, run_underlying Try.underlying23, sizeOf, typeInfo, hi, Builtin.lenOf, Builtin.firstCells, loadCells, loadCellsFrom, storeCells, hnc]
  · obtain ⟨v', w', hr, h2, h3, h4, h5⟩ := run_append_own_at (P := Try.prog) W 0 23 ty 22 i0 (.int .u64 0) 1 8 Try.underlying23 hi hz0 hz1 hz2 rfl (by decide) v xs.length (xs.map u64V) hv ⟨bk, off, none⟩ l.length c (l.map u64V) (by simp) (fun j u hj => by
      have e : (⟨bk, off, none⟩ : Addr).add j = ⟨bk, off + j, none⟩ := by unfold Addr.add; split <;> simp_all
      rw [e]
      rw [List.getElem?_map] at hj
      cases hx : l[j]? with
      | none => rw [hx] at hj; simp at hj
      | some x => rw [hx] at hj; simp at hj; rw [← hj]; exact (hc j x hx).2) (by intro u hu; obtain ⟨x, _, rfl⟩ := List.mem_map.1 hu; rfl) (by unfold maxLen; omega) (by omega) (Nat.zero_le _)
    exact ⟨v', w', hr, by simpa using h2, h3, h5⟩
/-- append by its run equation, as one step of a region that draws. -/
theorem step_append_run {P : Program} {ops : Array Oper} {o : Oper} {a : Act} {w : World} {K : Act → World → Prop} {Q : Exit → Act → World → Prop} {E : Prop}
    (hgd : o.guard = none) (s x : Operand) (t : TypeId) (ho : o.op = Op.call { callee := Callee.builtin Builtin.append, args := #[s, x], argTypes := #[t, t] }) (v y v' : Value) (w' : World) (hs : a.eval s = v) (hx : a.eval x = y)
    (hr : (Builtin.append_ #[t, t] o.type #[v, y]).run P w = .ok v' w') (h : K (a.put o.dst v') w') :
    if Region.wanted o (yielded ops a.tmps) = true then Oper.wp P o a w K Q else E := by
  have hw : Region.wanted o (yielded ops a.tmps) = true := by simp [Region.wanted, hgd]
  rw [if_pos hw]
  unfold Oper.wp execOp
  simp only [ho, resolve, invoke, builtin, Sem.run_bind, Sem.run_pure, Result.andThen_ok, List.map_toArray, List.map_cons, List.map_nil, hs, hx, hr]
  exact h
theorem row_empty {W : World} {g : Nat} (hg : W.heap[g]? = some (.cells #[] 22 (0, 0))) : W.ownsRow 0 22 1 (.slice (some ⟨g, 0, none⟩) 0 0) ([] : List Nat).length (([] : List Nat).map u64V) :=
  ⟨rfl, .inr ⟨g, 0, #[], rfl, Nat.zero_le _, hg, Nat.le_refl _, by unfold maxLen; omega, rfl, rfl⟩⟩
end Go.Proofs.Ytciohnfbjaglbaa
