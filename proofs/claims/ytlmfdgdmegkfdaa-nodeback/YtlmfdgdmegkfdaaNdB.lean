/- Leaves one behind the other, and what they leave (NodeBack). -/
import Derived.Test.YtlmfdgdmegkfdaaNdO
import Derived.Test.YtlmfdgdmegkfdaaNdS
namespace Go.Proofs.Ytlmfdgdmegkfdaa
open Go.RowKit Go.Shelf

theorem alN_cell (most next : Nat) (cs vals : List Nat) (h : alOk most next vals.length) (j : Nat) : cellN (alN most next cs vals) j = if next ≤ j ∧ j < next + vals.length then cellN vals (j - next) else cellN cs j := by
  unfold alN
  rw [if_pos h, spliceN_cell _ _ _ (by rw [padN_length]; omega), padN_cell]
def wsN (k : Nat) : List Nat := (List.range k).map fun i => 2 * (1 + 2 * i) + 1
theorem wsN_succ (k : Nat) : wsN (k + 1) = wsN k ++ [2 * (1 + 2 * k) + 1] := by simp [wsN, List.range_succ]
theorem wsN_cell (k i : Nat) (h : i < k) : cellN (wsN k) i = 2 * (1 + 2 * i) + 1 := by simp [wsN, cellN, h]
def CellsOf (cs : List Nat) (l : List (Nat × Nat)) (k : Nat) : Prop := ∀ i kk x, i < k → l[i]? = some (kk, x) → cellN cs (1 + 2 * i) = kk ∧ cellN cs (1 + 2 * i + 1) = x
theorem CellsOf.more {cs : List Nat} {l : List (Nat × Nat)} {k kk x : Nat} (h : CellsOf cs l k) (e : l[k]? = some (kk, x)) (hk : k < 400) : CellsOf (alN 1000 (1 + 2 * k) cs [kk, x]) l (k + 1) := by
  intro i a b hi hl
  have ok : alOk 1000 (1 + 2 * k) [kk, x].length := by simp [alOk]; omega
  rw [alN_cell _ _ _ _ ok, alN_cell _ _ _ _ ok]
  by_cases e1 : i = k
  · subst e1
    rw [e] at hl
    simp only [Option.some.injEq, Prod.mk.injEq] at hl
    obtain ⟨rfl, rfl⟩ := hl
    rw [if_pos (by simp), if_pos (by simp)]
    rw [show 1 + 2 * i - (1 + 2 * i) = 0 by omega, show 1 + 2 * i + 1 - (1 + 2 * i) = 1 by omega]
    exact ⟨rfl, rfl⟩
  · rw [if_neg (by simp; omega), if_neg (by simp; omega)]
    exact h i a b (by omega) hl
def NB (w X : World) (m b v : Nat) (l : List (Nat × Nat)) (k made : Nat) (wv : Value) : Prop := ∃ F cs tr, St w X m b v F 0 1000 (1 + 2 * k) made cs tr ∧ CellsOf cs l k ∧ tr.length = made ∧ X.ownsRow 0 38 1 wv k ((wsN k).map u64V) ∧ ∀ g, wv.ownBlock = some g → ¬ F g ∧ g ≠ v ∧ g ≠ m ∧ w.heap.size ≤ g
theorem NB.quiet {w X Y : World} {m b v : Nat} {l : List (Nat × Nat)} {k made : Nat} {wv : Value} (h : NB w X m b v l k made wv) (c : Chg (fun _ => False) X Y) : NB w Y m b v l k made wv := by
  obtain ⟨F, cs, tr, S, C, L, R, A⟩ := h
  exact ⟨F, cs, tr, S.chg' c, C, L, row_kept R fun g e => c.block g (row_lt R g e) (fun x => x), A⟩
theorem NB.chg {w X : World} {m b v : Nat} {l : List (Nat × Nat)} {k made : Nat} {wv : Value} (h : NB w X m b v l k made wv) : Chg (fun _ => False) w X := by
  obtain ⟨F, cs, tr, S, C, L, R, A⟩ := h
  exact S.chg
set_option maxRecDepth 100000 in
theorem split_leaf (a wd : Nat) (W : World) (hwd : wd = 2 * a + 1) (hb : a < 18446744073709551616) : Calls Try.prog 30 #[.int .u64 (wd : Int)] W fun e W' => e = .returned (.tuple #[.int .u8 1, .int .u64 (a : Int)]) ∧ W' = W := by
  have n1 : ((wd : Int) == 0) = false := beq_eq_false_iff_ne.2 (by omega)
  have n2 : (wd : Int) % 2 = 1 := by omega
  have n3 : (wd : Int) / 2 = (a : Int) := by omega
  have n4 : (wd : Int).tmod 2 = 1 := by rw [Int.tmod_eq_emod_of_nonneg (by omega)]; exact n2
  have n5 : (wd : Int).tdiv 2 = (a : Int) := by rw [Int.tdiv_eq_ediv_of_nonneg (by omega)]; exact n3
  have n6 := u64_lt hb
  clear hwd
  go_enter Try.func30, Try.ntmps30
  go_wp2_with fail
  go_ret2
  exact ⟨by simp, rfl⟩
theorem St.chgG {W X Y : World} {m b v : Nat} {F G : Nat → Prop} {th : Int} {most next made : Nat} {cs : List Nat} {l : List Acc} (h : St W X m b v F th most next made cs l) (c : Chg G X Y) (hF : ∀ k, F k → ¬ G k) (hv : ¬ G v) (hm : ¬ G m) (hG : ∀ k, k < W.heap.size → ¬ G k) : St W Y m b v F th most next made cs l :=
  ⟨h.bank.chg c hF, h.view.chg c hv, h.mem.chg c hm, h.nv, h.nm, h.mv, h.inF, h.hv, h.chg.trans c (fun _ _ x => x) (fun i hi x => hG i hi x)⟩
theorem NB.more {w X Y : World} {m b v : Nat} {l : List (Nat × Nat)} {k made wd : Nat} {u u' : Value} {F : Nat → Prop} {cs : List Nat} {tr : List Acc} {o : Obj} (S : St w X m b v F 0 1000 (1 + 2 * (k + 1)) made cs tr) (C : CellsOf cs l (k + 1)) (L : tr.length = made) (AP : ∀ g, u.ownBlock = some g → ¬ F g ∧ g ≠ v ∧ g ≠ m ∧ w.heap.size ≤ g)
    (hr : Y.ownsRow 0 38 1 u' (k + 1) ((wsN k).map u64V ++ [.int .u64 (wd : Int)])) (hwd : wd = 2 * (1 + 2 * k) + 1) (hg : (X.alloc o).grownBy Y u.ownBlock) (hw : u'.ownBlock = u.ownBlock ∨ u'.ownBlock = some (X.alloc o).heap.size) : NB w Y m b v l (k + 1) made u' := by
  have c2 : Chg (fun b => u.ownBlock = some b) X Y := ((Chg.refl (fun b => u.ownBlock = some b) X).alloc o).grown hg (fun k e _ => e)
  refine ⟨F, cs, tr, S.chgG c2 (fun k hk e => (AP k e).1 hk) (fun e => (AP _ e).2.1 rfl) (fun e => (AP _ e).2.2.1 rfl) (fun k hk e => by have := (AP k e).2.2.2; omega), C, L, ?_, ?_⟩
  · rw [wsN_succ, List.map_append]
    subst hwd
    exact hr
  · intro g e
    rcases hw with e1 | e1
    · rw [e1] at e
      exact AP g e
    · rw [e1] at e
      simp only [World.size_alloc, Option.some.injEq] at e
      have z1 := S.view.lt
      have z2 := S.mem.lt
      have z3 := S.chg.size
      exact ⟨fun x => by have := S.bank.lt' _ x; omega, by omega, by omega, by omega⟩
theorem drewC0 (W : World) : Chg (fun _ => False) W W.drew := (Chg.refl _ W).drew
theorem infoU2 : (Try.prog.info? 38).map (fun i => (i.zero, i.size, i.bytes)) = some (some (.int .u64 0), 1, 8) := by kernel_rfl
end Go.Proofs.Ytlmfdgdmegkfdaa
