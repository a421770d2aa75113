/- Changes as the document's; the document's held against each other. -/
import Derived.Test.YtbmfjcdafjknaabEm
import Derived.Deep.RegionHeld
namespace Go.Proofs.Ytbmfjcdafjknaab
open Go.RowKit Go.Joins Go.ChangeShapes Go.WideShapes
set_option linter.unusedVariables false

theorem row_chg0 {wr Y : World} {B : Nat} {e : TypeId} {s n : Nat} {v : Value} {xs : List Value} (h : wr.ownsRow B e s v n xs) (c : Chg (fun _ => False) wr Y) : Y.ownsRow B e s v n xs :=
  row_kept' h (fun k e => c.block k (h.lt k e).2 (fun x => x))
theorem step_append_baseE {P : Program} {ops : Array Oper} {o : Oper} {a : Act} {w : World} {K : Act → World → Prop} {Q : Exit → Act → World → Prop} {E : Prop}
    (hgd : o.guard = none) (s x : Operand) (t : TypeId) (ho : o.op = Op.call { callee := Callee.builtin Builtin.append, args := #[s, x], argTypes := #[t, t] })
    (B : Nat) (e : TypeId) (i : TypeInfo) (z : Value) (size bytes : Nat) (ht : P.underlying t = some (.slice e)) (hi : P.info? e = some i) (hz : i.zero = some z)
    (hsize : i.size = size) (hby : i.bytes = bytes) (hzs : z.cells.size = size) (hsz : 0 < size)
    (v : Value) (n : Nat) (xs : List Value) (hs : a.eval s = v) (hown : w.ownsRow B e size v n xs)
    (ad : Addr) (m c : Nat) (news : List Value) (hx : a.eval x = .slice (some ad) m c) (hl : news.length = m * size) (hnews : ∀ j u, news[j]? = some u → w.cell? (ad.add j) = some u) (h1 : ∀ u ∈ news, u.oneCell' = true)
    (h63 : n + m ≤ maxLen) (hbytes : (n + m) * bytes ≤ 140737488355328) (hB : B ≤ w.heap.size)
    (h : ∀ v' w', w'.ownsRow B e size v' (n + m) (xs ++ news) → w.grownBy w' v.ownBlock → (v'.ownBlock = v.ownBlock ∨ v'.ownBlock = some w.heap.size) → K (a.put o.dst v') w') :
    if Region.wanted o (yielded ops a.tmps) = true then Oper.wp P o a w K Q else E := by
  have hw : Region.wanted o (yielded ops a.tmps) = true := by simp [Region.wanted, hgd]
  rw [if_pos hw]
  obtain ⟨v', w', hr, h2, h3, h4, h5⟩ := run_append_own_at (P := P) w B t o.type e i z size bytes ht hi hz hsize hby hzs hsz v n xs hown ad m c news hl hnews h1 h63 hbytes hB
  unfold Oper.wp execOp
  simp only [ho, resolve, invoke, builtin, Sem.run_bind, Sem.run_pure, Result.andThen_ok, List.map_toArray, List.map_cons, List.map_nil, hs, hx, hr]
  exact h v' w' h2 h3 h5
theorem five_chg {wr Y : World} {b o : Nat} {u0 u1 u2 u3 u4 : Value} (h : wr.cell? ⟨b, o, none⟩ = some u0 ∧ wr.cell? ⟨b, o + 1, none⟩ = some u1 ∧ wr.cell? ⟨b, o + 2, none⟩ = some u2 ∧ wr.cell? ⟨b, o + 3, none⟩ = some u3 ∧ wr.cell? ⟨b, o + 4, none⟩ = some u4) (c : Chg (fun _ => False) wr Y) :
    Y.cell? ⟨b, o, none⟩ = some u0 ∧ Y.cell? ⟨b, o + 1, none⟩ = some u1 ∧ Y.cell? ⟨b, o + 2, none⟩ = some u2 ∧ Y.cell? ⟨b, o + 3, none⟩ = some u3 ∧ Y.cell? ⟨b, o + 4, none⟩ = some u4 :=
  ⟨cell_chg c h.1 (fun x => x), cell_chg c h.2.1 (fun x => x), cell_chg c h.2.2.1 (fun x => x), cell_chg c h.2.2.2.1 (fun x => x), cell_chg c h.2.2.2.2 (fun x => x)⟩
theorem turn_end {W wr Y w3 : World} {e : TypeId} {s n : Nat} {v : Value} {xs : List Value} (hb : Below W.heap.size W wr) (h : wr.ownsRow W.heap.size e s v n xs) (c : Chg (fun _ => False) wr Y) (g : Y.grownBy w3 v.ownBlock) : Below W.heap.size W w3 :=
  chg_belowE (((below_chgE hb).trans c (H := fun _ => False) (fun _ _ x => x) (fun _ _ x => x)).trans (grown_chgE (F := fun j => W.heap.size ≤ j) g (fun j e => (h.lt j e).1)) (fun _ _ x => x.elim) (fun _ _ x => x))
theorem five_chg2 {W wr Y w3 : World} {b o : Nat} {u0 u1 u2 u3 u4 : Value} {e : TypeId} {s n : Nat} {v : Value} {xs : List Value} (h : wr.cell? ⟨b, o, none⟩ = some u0 ∧ wr.cell? ⟨b, o + 1, none⟩ = some u1 ∧ wr.cell? ⟨b, o + 2, none⟩ = some u2 ∧ wr.cell? ⟨b, o + 3, none⟩ = some u3 ∧ wr.cell? ⟨b, o + 4, none⟩ = some u4) (hr : wr.ownsRow W.heap.size e s v n xs ∧ Below W.heap.size W wr) (c : Chg (fun _ => False) wr Y) (g : Y.grownBy w3 v.ownBlock) (hbW : b < W.heap.size) :
    w3.cell? ⟨b, o, none⟩ = some u0 ∧ w3.cell? ⟨b, o + 1, none⟩ = some u1 ∧ w3.cell? ⟨b, o + 2, none⟩ = some u2 ∧ w3.cell? ⟨b, o + 3, none⟩ = some u3 ∧ w3.cell? ⟨b, o + 4, none⟩ = some u4 := by
  have cc : Chg (fun j => W.heap.size ≤ j) wr w3 := c.trans (grown_chgE (F := fun j => W.heap.size ≤ j) g (fun j e => (hr.1.lt j e).1)) (fun _ _ x => x.elim) (fun _ _ x => x)
  have hn : ¬ W.heap.size ≤ b := by omega
  exact ⟨cell_chg cc h.1 hn, cell_chg cc h.2.1 hn, cell_chg cc h.2.2.1 hn, cell_chg cc h.2.2.2.1 hn, cell_chg cc h.2.2.2.2 hn⟩
theorem row_up {W : World} {B C : Nat} {e : TypeId} {s n : Nat} {v : Value} {xs : List Value} (h : W.ownsRow B e s v n xs) (hC : ∀ k, v.ownBlock = some k → C ≤ k) : W.ownsRow C e s v n xs := by
  refine ⟨h.1, ?_⟩
  rcases h.2 with h2 | ⟨g, cap, cur, hv, hg, r⟩
  · exact .inl h2
  · exact .inr ⟨g, cap, cur, hv, hC g (by subst hv; rfl), r⟩
end Go.Proofs.Ytbmfjcdafjknaab
