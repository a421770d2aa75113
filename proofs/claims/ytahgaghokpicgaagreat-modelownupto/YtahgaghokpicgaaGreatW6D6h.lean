/- The document's lists: With. -/
import Derived.Test.YtahgaghokpicgaaGreatW5D6a
namespace Go.Proofs.YtahgaghokpicgaaGreat
open Go.RowKit Go.Maps
set_option linter.unusedVariables false
set_option maxHeartbeats 16000000
set_option maxRecDepth 100000 in
theorem app_pairs {W : World} {B : Nat} {v : Value} {l : List (Nat × Nat)} (H : PRow W B v l) {q : Option Addr} {r : List (Nat × Nat)} (hq : PairsAt W q r) (hr : small64 r) (hok : q = none → r = []) (hl : l.length + r.length ≤ 8796093022000) (hB : B ≤ W.heap.size) (d : Nat) (ty : TypeId) :
    ∃ v' W', (Builtin.append_ #[37, 37] ty #[v, .slice q r.length d]).run Tryz.prog W = .ok v' W' ∧ PRow W' B v' (l ++ r) ∧ Chg (fun k => B ≤ k) W W' := by
 obtain ⟨i0, hi, hz0, hz1, hz2⟩ := info_parts infoPair
 have sm : small64 (l ++ r) := fun x hx => by
  rcases List.mem_append.1 hx with h | h
  ·exact H.2 x h
  ·exact hr x h
 cases q with
 | none =>
  obtain rfl := hok rfl
  refine ⟨v, W, ?_, by simpa using H, Chg.refl _ _⟩
  obtain ⟨_, ⟨rfl, e0⟩ | ⟨g, cap, cur, rfl, _, hg, hcap, _⟩⟩ := H.1
  ·simp [Builtin.append_, run_underlying Tryz.underlying37, sizeOf, typeInfo, hi, Builtin.lenOf, Builtin.firstCells]
  ·have q : ¬ cap < l.length := by omega
   simp [Builtin.append_, run_underlying Tryz.underlying37, sizeOf, typeInfo, hi, Builtin.lenOf, Builtin.firstCells, loadCells, storeCells, q]
 | some ad =>
  obtain ⟨v', w', hrun, h2, h3, h4, h5⟩ := run_append_own_at (P := Tryz.prog) W B 37 ty 86 i0 (.agg #[.int .u64 0, .int .u64 0]) 2 16 Tryz.underlying37 hi hz0 hz1 hz2 rfl (by decide) v l.length (prRow l) H.1 ad r.length d (prRow r) (prRow_len r) (fun j u hj => by
   obtain ⟨i, k, x, hk, h⟩ := prRow_inv r j u hj
   obtain ⟨bk, off, e, hb, hc⟩ := hq.resolve_left (by intro e; subst e; simp at hk)
   injection e with e
   subst e
   obtain ⟨_, _, q1, q2⟩ := hc i k x hk
   have e : (⟨bk, off, none⟩ : Addr).add j = ⟨bk, off + j, none⟩ := by unfold Addr.add; split <;> simp_all
   rw [e]
   rcases h with ⟨rfl, rfl⟩ | ⟨rfl, rfl⟩
   ·exact q1
   ·exact q2) (prRow_one r) (by unfold maxLen; omega) (by omega) hB
  have e : prRow l ++ prRow r = prRow (l ++ r) := by simp [prRow]
  rw [e] at h2
  refine ⟨v', w', hrun, ⟨by rw [List.length_append]; exact h2, sm⟩, (Chg.refl _ W).grown h3 (fun k e _ => (H.lt k e).1)⟩
def withL (l : List (Nat × Nat)) (k x : Nat) : List (Nat × Nat) := l.takeWhile (fun y => decide (y.1 < k)) ++ (k, x) :: (l.dropWhile (fun y => decide (y.1 < k))).dropWhile (fun y => y.1 == k)
theorem while_at {l : List (Nat × Nat)} {k i : Nat} (hi : i ≤ l.length) (h1 : ∀ (j : Nat) x, j < i → l[j]? = some x → x.1 < k) (h2 : ∀ x, l[i]? = some x → ¬ x.1 < k) : l.takeWhile (fun y => decide (y.1 < k)) = l.take i ∧ l.dropWhile (fun y => decide (y.1 < k)) = l.drop i := by
 induction l generalizing i with
 | nil => simp
 | cons y l ih =>
  cases i with
  | zero =>
   have := h2 y (by simp)
   simp [this]
  | succ i =>
   have hy := h1 0 y (by omega) (by simp)
   have := ih (i := i) (by simpa using hi) (fun j x hj hx => h1 (j + 1) x (by omega) (by simpa using hx)) (fun x hx => h2 x (by simpa using hx))
   simp [hy, this.1, this.2]
theorem Lists.with {f : Nat → Option Nat} {l : List (Nat × Nat)} (h : Lists f 0 18446744073709551615 l) {k x : Nat} (hk : k < 18446744073709551616) : Lists (updO f k (some x)) 0 18446744073709551615 (withL l k x) := by
 obtain ⟨hs, hm⟩ := h
 have mem : ∀ y, y ∈ withL l k x ↔ y = (k, x) ∨ (y ∈ l ∧ y.1 ≠ k) := by
  have gen : ∀ l : List (Nat × Nat), l.Pairwise (fun a b => a.1 < b.1) → ∀ y, y ∈ withL l k x ↔ y = (k, x) ∨ (y ∈ l ∧ y.1 ≠ k) := by
   intro l
   induction l with
   | nil => intro _ y; simp [withL]
   | cons z l ih =>
    intro hp y
    obtain ⟨h1, h2⟩ := List.pairwise_cons.1 hp
    by_cases q : z.1 < k
    ·have e : withL (z :: l) k x = z :: withL l k x := by simp [withL, q]
     rw [e, List.mem_cons, ih h2 y, List.mem_cons]
     constructor
     ·rintro (rfl | rfl | ⟨a, b⟩)
      ·exact .inr ⟨.inl rfl, by omega⟩
      ·exact .inl rfl
      ·exact .inr ⟨.inr a, b⟩
     ·rintro (rfl | ⟨rfl | a, b⟩)
      ·exact .inr (.inl rfl)
      ·exact .inl rfl
      ·exact .inr (.inr ⟨a, b⟩)
    ·have e : withL (z :: l) k x = (k, x) :: (z :: l).dropWhile (fun y => y.1 == k) := by simp [withL, q]
     rw [e]
     have rest : l.dropWhile (fun y => y.1 == k) = l := by
      cases l with
      | nil => rfl
      | cons w l =>
       have := h1 w (by simp)
       have : ¬ w.1 = k := by omega
       simp [this]
     by_cases q2 : z.1 = k
     ·have e2 : (z :: l).dropWhile (fun y => y.1 == k) = l := by simp [q2, rest]
      rw [e2, List.mem_cons, List.mem_cons]
      constructor
      ·rintro (rfl | a)
       ·exact .inl rfl
       ·exact .inr ⟨.inr a, by have := h1 y a; omega⟩
      ·rintro (rfl | ⟨rfl | a, b⟩)
       ·exact .inl rfl
       ·exact absurd q2 b
       ·exact .inr a
     ·have e2 : (z :: l).dropWhile (fun y => y.1 == k) = z :: l := by simp [q2]
      rw [e2, List.mem_cons, List.mem_cons]
      constructor
      ·rintro (rfl | rfl | a)
       ·exact .inl rfl
       ·exact .inr ⟨.inl rfl, q2⟩
       ·exact .inr ⟨.inr a, by have := h1 y a; omega⟩
      ·rintro (rfl | ⟨a, b⟩)
       ·exact .inl rfl
       ·exact .inr a
  exact gen l hs
 have pw : (withL l k x).Pairwise (fun a b => a.1 < b.1) := by
  have gen : ∀ l : List (Nat × Nat), l.Pairwise (fun a b => a.1 < b.1) → (withL l k x).Pairwise (fun a b => a.1 < b.1) := by
   intro l
   induction l with
   | nil => intro _; simp [withL]
   | cons z l ih =>
    intro hp
    obtain ⟨h1, h2⟩ := List.pairwise_cons.1 hp
    by_cases q : z.1 < k
    ·have e : withL (z :: l) k x = z :: withL l k x := by simp [withL, q]
     rw [e, List.pairwise_cons]
     refine ⟨fun y hy => ?_, ih h2⟩
     have hy' : y = (k, x) ∨ y ∈ l := by
      unfold withL at hy
      rcases List.mem_append.1 hy with a | a
      ·exact .inr ((List.takeWhile_sublist _).subset a)
      ·rcases List.mem_cons.1 a with a | a
       ·exact .inl a
       ·exact .inr ((List.dropWhile_sublist _).subset ((List.dropWhile_sublist _).subset a))
     rcases hy' with rfl | a
     ·exact q
     ·exact h1 y a
    ·have e : withL (z :: l) k x = (k, x) :: (z :: l).dropWhile (fun y => y.1 == k) := by simp [withL, q]
     rw [e, List.pairwise_cons]
     refine ⟨fun y hy => ?_, hp.sublist (List.dropWhile_sublist _)⟩
     by_cases q2 : z.1 = k
     ·have e2 : (z :: l).dropWhile (fun y => y.1 == k) = l.dropWhile (fun y => y.1 == k) := by simp [q2]
      rw [e2] at hy
      have := h1 y ((List.dropWhile_sublist _).subset hy)
      show k < y.1
      omega
     ·have e2 : (z :: l).dropWhile (fun y => y.1 == k) = z :: l := by simp [q2]
      rw [e2] at hy
      show k < y.1
      rcases List.mem_cons.1 hy with rfl | a
      ·omega
      ·have := h1 y a; omega
  exact gen l hs
 refine ⟨pw, fun a b => ?_⟩
 rw [mem (a, b)]
 by_cases e : a = k
 ·subst e
  rw [updO_same]
  constructor
  ·rintro (q | q)
   ·injection q with _ q; subst q; exact ⟨rfl, Nat.zero_le _, by omega⟩
   ·exact absurd rfl q.2
  ·rintro ⟨q, _⟩
   injection q with q
   subst q
   exact .inl rfl
 ·rw [updO_other _ _ e, ← hm a b]
  constructor
  ·rintro (q | q)
   ·injection q with q _; exact absurd q e
   ·exact q.1
  ·intro q
   exact .inr ⟨q, e⟩
theorem Lists.without {f : Nat → Option Nat} {l : List (Nat × Nat)} (h : Lists f 0 18446744073709551615 l) (k : Nat) : Lists (updO f k none) 0 18446744073709551615 (l.filter (fun x => x.1 != k)) := by
 refine ⟨h.1.sublist List.filter_sublist, fun a b => ?_⟩
 rw [List.mem_filter, h.2 a b]
 by_cases e : a = k
 ·subst e
  rw [updO_same]
  simp
 ·rw [updO_other _ _ e]
  simp [e]
theorem wpList_append_runP {P : Program} {w : World} {ops : Array Oper} {rest : List Oper} {o : Oper} {a : Act} {Q : Exit → Act → World → Prop} (hgd : o.guard = none) (s x : Operand) (t : TypeId)
    (ho : o.op = .call { callee := .builtin .append, args := #[s, x], argTypes := #[t, t] }) (v vx v' : Value) (w' : World) (hs : a.eval s = v) (hx : a.eval x = vx) (hr : (Builtin.append_ #[t, t] o.type #[v, vx]).run P w = .ok v' w')
    (h : wpList P ops Q rest (a.put o.dst v') w') : wpList P ops Q (o :: rest) a w := by
 refine wpList_plain hgd fun K hK => ?_
 unfold Oper.wp execOp
 simp only [ho, resolve, invoke, builtin, Sem.run_bind, Sem.run_pure, Result.andThen_ok, List.map_toArray, List.map_cons, List.map_nil, hs, hx, hr]
 exact hK _ _ h
theorem sum_len {l r : List (Nat × Nat)} {i : Nat} {y : Nat × Nat} (h1 : r.length ≤ l.length) (h2 : l.length ≤ 4398046510000) : (l.take i ++ [y]).length + r.length ≤ 8796093022000 := by
 rw [List.length_append, List.length_take]
 show min i l.length + 1 + r.length ≤ _
 omega
theorem with_end {l : List (Nat × Nat)} {k x i : Nat} (hi : l.length ≤ i) (h1 : ∀ (j : Nat) y, j < i → l[j]? = some y → y.1 < k) : withL l k x = l.take i ++ [(k, x)] ++ l.drop i := by
 obtain ⟨a, b⟩ := while_at (l := l) (k := k) (i := l.length) (Nat.le_refl _) (fun j y hj hy => h1 j y (by omega) hy) (fun y hy => by simp at hy)
 unfold withL
 rw [a, b, List.take_of_length_le hi, List.drop_eq_nil_of_le hi]
 simp
theorem with_mid {l : List (Nat × Nat)} {k x i : Nat} (hs : l.Pairwise (fun a b => a.1 < b.1)) (hi : i ≤ l.length) (h1 : ∀ (j : Nat) y, j < i → l[j]? = some y → y.1 < k) {y : Nat × Nat} (hy : l[i]? = some y) (hk : ¬ y.1 < k) : (y.1 = k → withL l k x = l.take i ++ [(k, x)] ++ l.drop (i + 1)) ∧ (y.1 ≠ k → withL l k x = l.take i ++ [(k, x)] ++ l.drop i) := by
 obtain ⟨a, b⟩ := while_at (l := l) (k := k) hi h1 (fun z hz => by rw [hy] at hz; injection hz with hz; subst hz; exact hk)
 have hd : l.drop i = y :: l.drop (i + 1) := by
  obtain ⟨q, e⟩ := List.getElem?_eq_some_iff.1 hy
  rw [List.drop_eq_getElem_cons q, e]
 have hp : (y :: l.drop (i + 1)).Pairwise (fun a b => a.1 < b.1) := by rw [← hd]; exact hs.sublist (List.drop_sublist _ _)
 obtain ⟨p1, _⟩ := List.pairwise_cons.1 hp
 unfold withL
 rw [a, b, hd]
 refine ⟨fun e => ?_, fun e => ?_⟩
 ·have : (l.drop (i + 1)).dropWhile (fun y => y.1 == k) = l.drop (i + 1) := by
    cases hq : l.drop (i + 1) with
    | nil => rfl
    | cons z t =>
     have := p1 z (by rw [hq]; simp)
     have : ¬ z.1 = k := by omega
     simp [this]
  simp [e, this]
 ·simp [e]
theorem slice_tail {l : List (Nat × Nat)} {W : World} {g cap : Nat} (hP : PairsAt W (some ⟨g, 0, none⟩) l) (hcap : l.length ≤ cap) {i : Nat} (hi : i ≤ l.length) : ∃ ad : Addr, (∀ w, (Instr.slice 37 (.slice (some ⟨g, 0, none⟩) l.length cap) (some (.int .i64 i)) none none).run Tryz.prog w = .ok (.slice (some ad) (l.drop i).length (cap - i)) w) ∧ PairsAt W (some ad) (l.drop i) := by
 by_cases e : cap = i
 ·refine ⟨⟨g, 0, none⟩, fun w => ?_, ?_⟩
  ·have hn : l.length = i := by omega
   have hb := run_sliceBound (P := Tryz.prog) (w := w) .i64 (i : Int) i .sliceB (by omega) (by omega)
   simp [Instr.slice, run_underlying Tryz.underlying37, Instr.sliceBounds, Result.andThen, e, hn, hb]
  ·have : l.drop i = [] := List.drop_eq_nil_of_le (by omega)
   rw [this]
   exact .inl rfl
 ·refine ⟨⟨g, i * 2, none⟩, fun w => ?_, ?_⟩
  ·have hb := run_sliceBound (P := Tryz.prog) (w := w) .i64 (i : Int) l.length .sliceB (by omega) (by omega)
   simp [Instr.slice, run_underlying Tryz.underlying37, Instr.sliceBounds, Result.andThen, e, hb, Addr.add]
   intro h0
   omega
  ·by_cases e2 : l.drop i = []
   ·exact .inl e2
   ·obtain ⟨bk, off, e9, hbk, hcs⟩ := hP.resolve_left (by intro q; subst q; simp at e2)
    injection e9 with e9
    injection e9 with e1 e3
    subst e1
    subst e3
    refine .inr ⟨g, i * 2, rfl, hbk, fun j k x hj => ?_⟩
    rw [List.getElem?_drop] at hj
    obtain ⟨a, b, c, d⟩ := hcs (i + j) k x hj
    refine ⟨a, b, ?_, ?_⟩
    ·rw [show i * 2 + j * 2 = 0 + (i + j) * 2 by omega]; exact c
    ·rw [show i * 2 + j * 2 + 1 = 0 + (i + j) * 2 + 1 by omega]; exact d
set_option maxRecDepth 100000 in
theorem with_go {l : List (Nat × Nat)} {W : World} {g cap : Nat} (hP : PairsAt W (some ⟨g, 0, none⟩) l) (hsm : small64 l) (hso : l.Pairwise (fun a b => a.1 < b.1)) (hl : l.length ≤ 4398046510000) (hcap : l.length ≤ cap) {key x : Nat} (hk : key < 18446744073709551616) (hx : x < 18446744073709551616) :
    Calls Tryz.prog 49 #[.slice (some ⟨g, 0, none⟩) l.length cap, .int .u64 key, .int .u64 x] W fun e W' => (∃ v, e = .returned v ∧ PRow W' W.heap.size v (withL l key x)) ∧ Chg (fun _ => False) W W' := by
 obtain ⟨i0, hi, hz0, hz1, hz2⟩ := info_parts infoPair
 have HP := keepH hP
 have HSM := keepH hsm
 have HSO := keepH hso
 have HKX : Hid (key < 18446744073709551616 ∧ x < 18446744073709551616) := ⟨hk, hx⟩
 have HCP : Hid (l.length ≤ cap ∧ l.length ≤ 4398046510000) := ⟨hcap, hl⟩
 clear hP hk hx hsm hso
 go_enter Tryz.func49, Tryz.ntmps49
 go_wp2_with fail
 go_loopw [7, 8] (fun s q wr => ∃ i : Nat, i ≤ l.length ∧ q = .int .i64 i ∧ Hid (PRow wr W.heap.size s (l.take i) ∧ Chg (fun _ => False) W wr ∧ ∀ (j : Nat) y, j < i → l[j]? = some y → y.1 < key)) (fun _ q _ => l.length - natOf q)
 case atStart => exact ⟨0, Nat.zero_le _, rfl, PRow.nil _ _, Chg.refl _ _, fun j y h => absurd h (by omega)⟩
 case round =>
  obtain ⟨i, hil, rfl, HX⟩ := hrel
  have HB0 : Hid ((l.take i).length < 8796093022000) := by show _ < _; rw [List.length_take]; omega
  by_cases hlt : i < l.length
  ·have q1 : (i : Int) < (l.length : Int) := by omega
   obtain ⟨⟨k, v⟩, hk⟩ : ∃ y, l[i]? = some y := ⟨l[i], List.getElem?_eq_getElem hlt⟩
   obtain ⟨bk, off, e9, hbk, hcs⟩ := HP.out.resolve_left (by intro e; subst e; simp at hk)
   injection e9 with e9
   injection e9 with e1 e2
   subst e1
   subst e2
   obtain ⟨hk64, hv64, hc0, hc1⟩ := hcs i k v hk
   have c0 : wr.cell? ⟨g, i * 2, none⟩ = some (.int .u64 k) := by have := cell_chg HX.out.2.1 hc0 (fun x => x); simpa using this
   have c1 : wr.cell? ⟨g, i * 2 + 1, none⟩ = some (.int .u64 v) := by have := cell_chg HX.out.2.1 hc1 (fun x => x); simpa using this
   have HKV : Hid (k < 18446744073709551616 ∧ v < 18446744073709551616) := ⟨hk64, hv64⟩
   have HCell : Hid (∀ w, Chg (fun _ => False) W w → w.cell? ⟨g, i * 2, none⟩ = some (.int .u64 k)) := fun w cw => by have := cell_chg cw hc0 (fun x => x); simpa using this
   have HK := keepH hk
   clear hk hcs hc0 hc1 hbk
   by_cases t1 : k < key
   ·have q2 : (k : Int) < (key : Int) := by omega
    have HT1 := keepH t1
    clear t1
    go_wp2_with (first | (at_builtin; go_loud (refine wpList_append_own_at _ rfl _ _ 37 rfl W.heap.size 86 i0 (.agg #[.int .u64 0, .int .u64 0]) 2 16 Tryz.underlying37 hi hz0 hz1 hz2 rfl (by decide) _ _ _ rfl (HX.out.1.1.kept (World.grownBy_alloc _ _ none) (by cases Value.ownBlock _ <;> simp)) ⟨_, 0, none⟩ 1 1 [.int .u64 k, .int .u64 v] rfl rfl (cells_new _ _ rfl _ _) (by intro u hu; simp at hu; rcases hu with rfl | rfl <;> rfl) (by unfold maxLen; have := HB0.out; omega) (by have := HB0.out; omega) (Nat.le_trans HX.out.2.1.size (by simp)) ?_); intro v' w3 r1 r2 r3 r4; have R1 := keepH r1; have R2 := keepH r2; have R4 := keepH r4; clear r1 r2 r3 r4))
    go_roundw
    case rel =>
     refine ⟨i + 1, by omega, by first | rfl | go_num, ?_, ?_, fun j y hj hy => ?_⟩
     ·rw [List.take_add_one, HK.out]
      exact PRow.add HX.out.1.2 HKV.out.1 HKV.out.2 R1.out
     ·exact (HX.out.2.1.alloc _).trans (grown_chg (F := fun j => W.heap.size ≤ j) R2.out (fun j e => (HX.out.1.lt j e).1)) (fun _ _ x => x) (fun j hj e => by omega)
     ·by_cases q : j = i
      ·subst q; rw [HK.out] at hy; injection hy with hy; subst hy; exact HT1.out
      ·exact HX.out.2.2 j y (by omega) hy
    case measure => exact meas hlt
   ·have q2 : ¬ (k : Int) < (key : Int) := by omega
    have HMid := keepH (with_mid (x := x) HSO.out hil HX.out.2.2 HK.out t1)
    by_cases t2 : k = key
    ·have q3 : ((k : Int) == (key : Int)) = true := by simp; omega
     have HT2 := keepH t2
     clear t1 t2
     obtain ⟨r, hr⟩ : ∃ r, r = l.drop (i + 1) := ⟨_, rfl⟩
     have HRW : Hid (withL l key x = l.take i ++ [(key, x)] ++ r) := by rw [hr]; exact HMid.out.1 HT2.out
     have HSR : Hid (small64 r ∧ r.length ≤ l.length) := by refine ⟨fun y hy => HSM.out y ?_, ?_⟩; (rw [hr] at hy; exact (List.drop_sublist _ _).subset hy); (rw [hr, List.length_drop]; omega)
     have HSL := keepH (slice_tail HP.out HCP.out.1 (i := i + 1) (by omega))
     rw [← hr] at HSL
     clear hr
     go_upto_region 7 with (first | (at_builtin; go_loud (refine wpList_append_own_at _ rfl _ _ 37 rfl W.heap.size 86 i0 (.agg #[.int .u64 0, .int .u64 0]) 2 16 Tryz.underlying37 hi hz0 hz1 hz2 rfl (by decide) _ _ _ rfl (HX.out.1.1.kept (World.grownBy_alloc _ _ none) (by cases Value.ownBlock _ <;> simp)) ⟨_, 0, none⟩ 1 1 [.int .u64 key, .int .u64 x] rfl rfl (cells_new _ _ rfl _ _) (by intro u hu; simp at hu; rcases hu with rfl | rfl <;> rfl) (by unfold maxLen; have := HB0.out; omega) (by have := HB0.out; omega) (Nat.le_trans HX.out.2.1.size (by simp)) ?_); intro v' w3 r1 r2 r3 r4; have R1 := keepH r1; have R2 := keepH r2; have R4 := keepH r4; clear r1 r2 r3 r4))
     have HR3 : Hid (PRow w3 W.heap.size v' (l.take i ++ [(key, x)]) ∧ Chg (fun _ => False) W w3) := ⟨PRow.add HX.out.1.2 HKX.out.1 HKX.out.2 (by have := R1.out; simpa using this), (HX.out.2.1.alloc _).trans (grown_chg (F := fun j => W.heap.size ≤ j) R2.out (fun j e => (HX.out.1.lt j e).1)) (fun _ _ x => x) (fun j hj e => by omega)⟩
     clear R1 R2 R4
     have HLEN : Hid ((l.take i ++ [(key, x)]).length + r.length ≤ 8796093022000) := sum_len HSR.out.2 HCP.out.2
     obtain ⟨ad, hsl, hPT⟩ := HSL.out
     obtain ⟨v9, w9, hap, hR9, hC9⟩ := app_pairs HR3.out.1 (hPT.chgF HR3.out.2 (fun _ _ _ x => x)) HSR.out.1 (fun e => by cases e) HLEN.out HR3.out.2.size (cap - (i + 1)) 37
     have hsl3 : (Instr.slice 37 (.slice (some ⟨g, 0, none⟩) l.length cap) (some (.int .i64 ((i : Int) + 1))) none none).run Tryz.prog w3 = .ok (.slice (some ad) r.length (cap - (i + 1))) w3 := hsl w3
     have HR9 : Hid (PRow w9 W.heap.size v9 (withL l key x) ∧ Chg (fun _ => False) W w9) := ⟨by rw [HRW.out]; exact hR9, HR3.out.2.trans hC9 (fun _ _ x => x) (fun j hj e => by omega)⟩
     clear hsl hPT hR9 hC9 HSL
     have d0 : w3.cell? ⟨g, i * 2, none⟩ = some (.int .u64 k) := by have := HCell.out w3 HR3.out.2; exact this
     go_wp2_with (first | (at_builtin; refine wpList_append_runP rfl _ _ 37 rfl _ _ _ _ rfl rfl hap ?_))
     go_ret
     exact ⟨⟨_, rfl, HR9.out.1⟩, HR9.out.2⟩
    ·have q3 : ((k : Int) == (key : Int)) = false := by simp; omega
     have HT2 := keepH t2
     clear t1 t2
     obtain ⟨r, hr⟩ : ∃ r, r = l.drop (i) := ⟨_, rfl⟩
     have HRW : Hid (withL l key x = l.take i ++ [(key, x)] ++ r) := by rw [hr]; exact HMid.out.2 HT2.out
     have HSR : Hid (small64 r ∧ r.length ≤ l.length) := by refine ⟨fun y hy => HSM.out y ?_, ?_⟩; (rw [hr] at hy; exact (List.drop_sublist _ _).subset hy); (rw [hr, List.length_drop]; omega)
     have HSL := keepH (slice_tail HP.out HCP.out.1 (i := i) (by omega))
     rw [← hr] at HSL
     clear hr
     go_upto_region 7 with (first | (at_builtin; go_loud (refine wpList_append_own_at _ rfl _ _ 37 rfl W.heap.size 86 i0 (.agg #[.int .u64 0, .int .u64 0]) 2 16 Tryz.underlying37 hi hz0 hz1 hz2 rfl (by decide) _ _ _ rfl (HX.out.1.1.kept (World.grownBy_alloc _ _ none) (by cases Value.ownBlock _ <;> simp)) ⟨_, 0, none⟩ 1 1 [.int .u64 key, .int .u64 x] rfl rfl (cells_new _ _ rfl _ _) (by intro u hu; simp at hu; rcases hu with rfl | rfl <;> rfl) (by unfold maxLen; have := HB0.out; omega) (by have := HB0.out; omega) (Nat.le_trans HX.out.2.1.size (by simp)) ?_); intro v' w3 r1 r2 r3 r4; have R1 := keepH r1; have R2 := keepH r2; have R4 := keepH r4; clear r1 r2 r3 r4))
     have HR3 : Hid (PRow w3 W.heap.size v' (l.take i ++ [(key, x)]) ∧ Chg (fun _ => False) W w3) := ⟨PRow.add HX.out.1.2 HKX.out.1 HKX.out.2 (by have := R1.out; simpa using this), (HX.out.2.1.alloc _).trans (grown_chg (F := fun j => W.heap.size ≤ j) R2.out (fun j e => (HX.out.1.lt j e).1)) (fun _ _ x => x) (fun j hj e => by omega)⟩
     clear R1 R2 R4
     have HLEN : Hid ((l.take i ++ [(key, x)]).length + r.length ≤ 8796093022000) := sum_len HSR.out.2 HCP.out.2
     obtain ⟨ad, hsl, hPT⟩ := HSL.out
     obtain ⟨v9, w9, hap, hR9, hC9⟩ := app_pairs HR3.out.1 (hPT.chgF HR3.out.2 (fun _ _ _ x => x)) HSR.out.1 (fun e => by cases e) HLEN.out HR3.out.2.size (cap - (i)) 37
     have hsl3 : (Instr.slice 37 (.slice (some ⟨g, 0, none⟩) l.length cap) (some (.int .i64 ((i : Int)))) none none).run Tryz.prog w3 = .ok (.slice (some ad) r.length (cap - (i))) w3 := hsl w3
     have HR9 : Hid (PRow w9 W.heap.size v9 (withL l key x) ∧ Chg (fun _ => False) W w9) := ⟨by rw [HRW.out]; exact hR9, HR3.out.2.trans hC9 (fun _ _ x => x) (fun j hj e => by omega)⟩
     clear hsl hPT hR9 hC9 HSL
     have d0 : w3.cell? ⟨g, i * 2, none⟩ = some (.int .u64 k) := by have := HCell.out w3 HR3.out.2; exact this
     go_wp2_with (first | (at_builtin; refine wpList_append_runP rfl _ _ 37 rfl _ _ _ _ rfl rfl hap ?_))
     go_ret
     exact ⟨⟨_, rfl, HR9.out.1⟩, HR9.out.2⟩
  ·have q1 : ¬ (i : Int) < (l.length : Int) := by omega
   obtain ⟨r, hr⟩ : ∃ r, r = l.drop (i) := ⟨_, rfl⟩
   have HRW : Hid (withL l key x = l.take i ++ [(key, x)] ++ r) := by rw [hr]; exact with_end (by omega) HX.out.2.2
   have HSR : Hid (small64 r ∧ r.length ≤ l.length) := by refine ⟨fun y hy => HSM.out y ?_, ?_⟩; (rw [hr] at hy; exact (List.drop_sublist _ _).subset hy); (rw [hr, List.length_drop]; omega)
   have HSL := keepH (slice_tail HP.out HCP.out.1 (i := i) (by omega))
   rw [← hr] at HSL
   clear hr
   go_upto_region 7 with (first | (at_builtin; go_loud (refine wpList_append_own_at _ rfl _ _ 37 rfl W.heap.size 86 i0 (.agg #[.int .u64 0, .int .u64 0]) 2 16 Tryz.underlying37 hi hz0 hz1 hz2 rfl (by decide) _ _ _ rfl (HX.out.1.1.kept (World.grownBy_alloc _ _ none) (by cases Value.ownBlock _ <;> simp)) ⟨_, 0, none⟩ 1 1 [.int .u64 key, .int .u64 x] rfl rfl (cells_new _ _ rfl _ _) (by intro u hu; simp at hu; rcases hu with rfl | rfl <;> rfl) (by unfold maxLen; have := HB0.out; omega) (by have := HB0.out; omega) (Nat.le_trans HX.out.2.1.size (by simp)) ?_); intro v' w3 r1 r2 r3 r4; have R1 := keepH r1; have R2 := keepH r2; have R4 := keepH r4; clear r1 r2 r3 r4))
   have HR3 : Hid (PRow w3 W.heap.size v' (l.take i ++ [(key, x)]) ∧ Chg (fun _ => False) W w3) := ⟨PRow.add HX.out.1.2 HKX.out.1 HKX.out.2 (by have := R1.out; simpa using this), (HX.out.2.1.alloc _).trans (grown_chg (F := fun j => W.heap.size ≤ j) R2.out (fun j e => (HX.out.1.lt j e).1)) (fun _ _ x => x) (fun j hj e => by omega)⟩
   clear R1 R2 R4
   have HLEN : Hid ((l.take i ++ [(key, x)]).length + r.length ≤ 8796093022000) := sum_len HSR.out.2 HCP.out.2
   obtain ⟨ad, hsl, hPT⟩ := HSL.out
   obtain ⟨v9, w9, hap, hR9, hC9⟩ := app_pairs HR3.out.1 (hPT.chgF HR3.out.2 (fun _ _ _ x => x)) HSR.out.1 (fun e => by cases e) HLEN.out HR3.out.2.size (cap - (i)) 37
   have hsl3 : (Instr.slice 37 (.slice (some ⟨g, 0, none⟩) l.length cap) (some (.int .i64 ((i : Int)))) none none).run Tryz.prog w3 = .ok (.slice (some ad) r.length (cap - (i))) w3 := hsl w3
   have HR9 : Hid (PRow w9 W.heap.size v9 (withL l key x) ∧ Chg (fun _ => False) W w9) := ⟨by rw [HRW.out]; exact hR9, HR3.out.2.trans hC9 (fun _ _ x => x) (fun j hj e => by omega)⟩
   clear hsl hPT hR9 hC9 HSL
   go_wp2_with (first | (at_builtin; refine wpList_append_runP rfl _ _ 37 rfl _ _ _ _ rfl rfl hap ?_))
   go_ret
   exact ⟨⟨_, rfl, HR9.out.1⟩, HR9.out.2⟩
theorem slice_nil (w : World) : (Instr.slice 37 (.slice none 0 0) (some (.int .i64 0)) none none).run Tryz.prog w = .ok (.slice none 0 0) w := by
 have hb := run_sliceBound (P := Tryz.prog) (w := w) .i64 (0 : Int) 0 .sliceB (by omega) (by omega)
 simp [Instr.slice, run_underlying Tryz.underlying37, Instr.sliceBounds, Result.andThen, hb]
set_option maxRecDepth 100000 in
theorem with_nil {W : World} {key x : Nat} (hk : key < 18446744073709551616) (hx : x < 18446744073709551616) :
    Calls Tryz.prog 49 #[.slice none 0 0, .int .u64 key, .int .u64 x] W fun e W' => (∃ v, e = .returned v ∧ PRow W' W.heap.size v [(key, x)]) ∧ Chg (fun _ => False) W W' := by
 obtain ⟨i0, hi, hz0, hz1, hz2⟩ := info_parts infoPair
 have HKX : Hid (key < 18446744073709551616 ∧ x < 18446744073709551616) := ⟨hk, hx⟩
 have HX : Hid (PRow W W.heap.size (.slice none 0 0) [] ∧ Chg (fun _ => False) W W ∧ True) := ⟨PRow.nil _ _, Chg.refl _ _, trivial⟩
 have HB0 : Hid (([] : List (Nat × Nat)).length < 8796093022000) := by show _ < _; simp
 clear hk hx
 go_enter Tryz.func49, Tryz.ntmps49
 go_wp2_with fail
 refine wp_loop_rounds 1 ?_
 rw [rounds_succ]
 go_upto_region 7 with (first | (at_builtin; go_loud (refine wpList_append_own_at _ rfl _ _ 37 rfl W.heap.size 86 i0 (.agg #[.int .u64 0, .int .u64 0]) 2 16 Tryz.underlying37 hi hz0 hz1 hz2 rfl (by decide) _ _ _ rfl (HX.out.1.1.kept (World.grownBy_alloc _ _ none) (by cases Value.ownBlock _ <;> simp)) ⟨_, 0, none⟩ 1 1 [.int .u64 key, .int .u64 x] rfl rfl (cells_new _ _ rfl _ _) (by intro u hu; simp at hu; rcases hu with rfl | rfl <;> rfl) (by unfold maxLen; have := HB0.out; omega) (by have := HB0.out; omega) (Nat.le_trans HX.out.2.1.size (by simp)) ?_); intro v' w3 r1 r2 r3 r4; have R1 := keepH r1; have R2 := keepH r2; have R4 := keepH r4; clear r1 r2 r3 r4))
 have HR3 : Hid (PRow w3 W.heap.size v' [(key, x)] ∧ Chg (fun _ => False) W w3) := ⟨PRow.add (l := []) (fun y hy => by cases hy) HKX.out.1 HKX.out.2 R1.out, (HX.out.2.1.alloc _).trans (grown_chg (F := fun j => W.heap.size ≤ j) R2.out (fun j e => (HX.out.1.lt j e).1)) (fun _ _ x => x) (fun j hj e => by omega)⟩
 clear R1 R2 R4
 obtain ⟨v9, w9, hap, hR9, hC9⟩ := app_pairs HR3.out.1 (q := none) (r := []) (.inl rfl) (fun y hy => by cases hy) (fun _ => rfl) (by simp) HR3.out.2.size 0 37
 have hsl3 := slice_nil w3
 have HR9 : Hid (PRow w9 W.heap.size v9 [(key, x)] ∧ Chg (fun _ => False) W w9) := ⟨by simpa using hR9, HR3.out.2.trans hC9 (fun _ _ x => x) (fun j hj e => by omega)⟩
 clear hR9 hC9
 go_wp2_with (first | (at_builtin; refine wpList_append_runP rfl _ _ 37 rfl _ _ _ _ rfl rfl hap ?_))
 go_ret
 exact ⟨⟨_, rfl, HR9.out.1⟩, HR9.out.2⟩
structure RL (W : World) (v : Value) (f : Nat → Option Nat) (l : List (Nat × Nat)) : Prop where
 row : PRow W 0 v l
 ls : Lists f 0 18446744073709551615 l
theorem RL.chg {F : Nat → Prop} {W W' : World} {v : Value} {f : Nat → Option Nat} {l : List (Nat × Nat)} (h : RL W v f l) (c : Chg F W W') (hn : ∀ b, v.ownBlock = some b → ¬ F b) : RL W' v f l :=
 ⟨⟨row_kept h.row.1 (fun k hk => c.block k (h.row.lt k hk).2 (hn k hk)), h.row.2⟩, h.ls⟩
theorem RL.quiet {W W' : World} {v : Value} {f : Nat → Option Nat} {l : List (Nat × Nat)} (h : RL W v f l) (c : Chg (fun _ => False) W W') : RL W' v f l := h.chg c (fun _ _ x => x)
theorem prow_zero {W : World} {B : Nat} {v : Value} {l : List (Nat × Nat)} (h : PRow W B v l) : PRow W 0 v l := by
 refine ⟨⟨h.1.1, ?_⟩, h.2⟩
 rcases h.1.2 with h2 | ⟨g, cap, cur, hv, hg, hr⟩
 ·exact .inl h2
 ·exact .inr ⟨g, cap, cur, hv, Nat.zero_le _, hr⟩
theorem r_with {W : World} {v : Value} {f : Nat → Option Nat} {l : List (Nat × Nat)} (H : RL W v f l) (hl : l.length ≤ 4398046510000) {key x : Nat} (hk : key < 18446744073709551616) (hx : x < 18446744073709551616) :
    Calls Tryz.prog 49 #[v, .int .u64 key, .int .u64 x] W fun e W' => (∃ v', e = .returned v' ∧ RL W' v' (updO f key (some x)) (withL l key x) ∧ ∀ b, v'.ownBlock = some b → W.heap.size ≤ b) ∧ Chg (fun _ => False) W W' := by
 obtain ⟨p, c, rfl, hP, _⟩ := H.row.slice
 rcases H.row.1.2 with ⟨e, e0⟩ | ⟨g, cap, cur, e, _, hg, hcap, _⟩
 ·injection e with e1 e2 e3
  subst e1
  subst e3
  obtain rfl := List.length_eq_zero_iff.1 e0
  refine (with_nil hk hx).mono ?_
  rintro e W' ⟨⟨v, rfl, hv⟩, cc⟩
  exact ⟨⟨v, rfl, ⟨prow_zero hv, H.ls.with hk⟩, fun b hb => (hv.lt b hb).1⟩, cc⟩
 ·injection e with e1 e2 e3
  subst e1
  subst e3
  refine (with_go hP H.row.2 H.ls.1 hl hcap hk hx).mono ?_
  rintro e W' ⟨⟨v, rfl, hv⟩, cc⟩
  exact ⟨⟨v, rfl, ⟨prow_zero hv, H.ls.with hk⟩, fun b hb => (hv.lt b hb).1⟩, cc⟩
theorem r_withoutL {W : World} {v : Value} {f : Nat → Option Nat} {l : List (Nat × Nat)} (H : RL W v f l) (hl : l.length ≤ 4398046510000) (key : Nat) :
    Calls Tryz.prog 50 #[v, .int .u64 key] W fun e W' => (∃ v', e = .returned v' ∧ RL W' v' (updO f key none) (l.filter (fun x => x.1 != key)) ∧ ∀ b, v'.ownBlock = some b → W.heap.size ≤ b) ∧ Chg (fun _ => False) W W' := by
 obtain ⟨p, c, rfl, hP, _⟩ := H.row.slice
 refine (r_without hP (by omega) c key).mono ?_
 rintro e W' ⟨⟨v, rfl, hv⟩, cc⟩
 exact ⟨⟨v, rfl, ⟨prow_zero hv, H.ls.without key⟩, fun b hb => (hv.lt b hb).1⟩, cc⟩
theorem r_findL {W : World} {v : Value} {f : Nat → Option Nat} {l : List (Nat × Nat)} (H : RL W v f l) (hl : l.length ≤ 4398046510000) {key : Nat} (hk : key < 18446744073709551616) :
    Calls Tryz.prog 48 #[v, .int .u64 key] W fun e W' => e = .returned (.tuple #[.int .u64 (((f key).getD 0 : Nat) : Int), .bool (f key).isSome]) ∧ W' = W := by
 obtain ⟨p, c, rfl, hP, _⟩ := H.row.slice
 refine (r_find hP (by omega) c key).mono ?_
 rintro e W' ⟨rfl, rfl⟩
 rw [H.ls.look key hk]
 exact ⟨rfl, rfl⟩
set_option maxRecDepth 100000 in
theorem r_of {W : World} {p : Option Addr} {f : Nat → Option Nat} {l : List (Nat × Nat)} {c : Nat} (H : RL W (.slice p l.length c) f l) (hl : l.length ≤ 4398046510000) {kp : Option Addr} {ks : List Nat} (hk : KeysAt W kp ks) (hkl : ks.length ≤ 4398046510000) (kc : Nat) :
    Calls Tryz.prog 87 #[.slice p l.length c, .slice kp ks.length kc] W fun e W' => (∃ v, e = .returned v ∧ PRow W' W.heap.size v (pairsOf f ks)) ∧ Chg (fun _ => False) W W' := by
 obtain ⟨i0, hi, hz0, hz1, hz2⟩ := info_parts infoPair
 have HM := keepH H
 have HK := keepH hk
 have HLL := keepH hl
 clear H hk
 go_enter Tryz.func87, Tryz.ntmps87
 go_wp2_with fail
 go_loopw [5, 6] (fun s q wr => ∃ i : Nat, i ≤ ks.length ∧ q = .int .i64 i ∧ Hid (PRow wr W.heap.size s (pairsOf f (ks.take i)) ∧ Chg (fun _ => False) W wr ∧ True)) (fun _ q _ => ks.length - natOf q)
 case atStart => exact ⟨0, Nat.zero_le _, rfl, PRow.nil _ _, Chg.refl _ _, trivial⟩
 case round =>
  obtain ⟨i, hil, rfl, HX⟩ := hrel
  by_cases hlt : i < ks.length
  ·have q1 : (i : Int) < (ks.length : Int) := by omega
   obtain ⟨k, hk⟩ : ∃ k, ks[i]? = some k := ⟨ks[i], List.getElem?_eq_getElem hlt⟩
   obtain ⟨bk, off, rfl, hbk, hcs⟩ := HK.out.resolve_left (by intro e; subst e; simp at hk)
   obtain ⟨hk64, hcell⟩ := hcs i k hk
   have c0 := cell_chg HX.out.2.1 hcell (fun x => x)
   have HFD := keepH (r_findL (HM.out.quiet HX.out.2.1) HLL.out hk64)
   have HT := keepH (pairsOf_add f ks i k hk)
   have hpl := pairsOf_len f (ks.take i)
   rw [List.length_take] at hpl
   have HB0 : Hid ((pairsOf f (ks.take i)).length < 8796093022000) := by show _ < _; omega
   have HK64 := keepH hk64
   have HV64 : Hid (∀ v, f k = some v → v < 18446744073709551616) := fun v hv => (HM.out.row.2 (k, v) ((HM.out.ls.2 k v).2 ⟨hv, Nat.zero_le _, by omega⟩)).2
   clear hk hcs hcell hpl hk64
   cases hf : f k with
   | none =>
    rw [hf] at HFD
    have HF := keepH hf
    clear hf
    go_wp2_with fail
    refine HFD.out.mono ?_
    rintro e w1 ⟨rfl, rfl⟩
    go_wp2_with fail
    go_roundw
    case rel => exact ⟨i + 1, by omega, by first | rfl | go_num, by rw [HT.out]; simpa [pairsOf, HF.out] using HX.out.1, HX.out.2⟩
    case measure => exact meas hlt
   | some x =>
    rw [hf] at HFD
    have HF : Hid (f k = some x ∧ x < 18446744073709551616) := ⟨hf, HV64.out x hf⟩
    clear hf
    go_wp2_with fail
    refine HFD.out.mono ?_
    rintro e w1 ⟨rfl, rfl⟩
    go_wp2_with (first | (at_builtin; go_loud (refine wpList_append_own_at _ rfl _ _ 37 rfl W.heap.size 86 i0 (.agg #[.int .u64 0, .int .u64 0]) 2 16 Tryz.underlying37 hi hz0 hz1 hz2 rfl (by decide) _ _ _ rfl (HX.out.1.1.kept (World.grownBy_alloc _ _ none) (by cases Value.ownBlock _ <;> simp)) ⟨_, 0, none⟩ 1 1 [.int .u64 k, .int .u64 x] rfl rfl (cells_new _ _ rfl _ _) (by intro u hu; simp at hu; rcases hu with rfl | rfl <;> rfl) (by unfold maxLen; have := HB0.out; omega) (by have := HB0.out; omega) (Nat.le_trans HX.out.2.1.size (by simp)) ?_); intro v' w3 r1 r2 r3 r4; have R1 := keepH r1; have R2 := keepH r2; have R4 := keepH r4; clear r1 r2 r3 r4))
    go_roundw
    case rel =>
     refine ⟨i + 1, by omega, by first | rfl | go_num, ?_, ?_, trivial⟩
     ·rw [HT.out]
      have e : pairsOf f [k] = [(k, x)] := by simp [pairsOf, HF.out.1]
      rw [e]
      exact PRow.add HX.out.1.2 HK64.out HF.out.2 R1.out
     ·exact (HX.out.2.1.alloc _).trans (grown_chg (F := fun j => W.heap.size ≤ j) R2.out (fun j e => (HX.out.1.lt j e).1)) (fun _ _ x => x) (fun j hj e => by omega)
    case measure => exact meas hlt
  ·have q1 : ¬ (i : Int) < (ks.length : Int) := by omega
   obtain rfl : i = ks.length := by omega
   go_wp2_with fail
   go_ret
   rw [List.take_length] at HX
   exact ⟨⟨_, rfl, HX.out.1⟩, HX.out.2.1⟩
def HsAt (W : World) (p : Option Addr) (hs : List (Nat × Value)) : Prop := hs = [] ∨ ∃ bk off, p = some ⟨bk, off, none⟩ ∧ bk < W.heap.size ∧ ∀ (i k : Nat) (x : Value), hs[i]? = some (k, x) → k < 18446744073709551616 ∧ W.cell? ⟨bk, off + i * 2, none⟩ = some (.int .u64 k) ∧ W.cell? ⟨bk, off + i * 2 + 1, none⟩ = some x
def placeL (hs : List (Nat × Value)) (h : Nat) : Option Nat := hs.findIdx? (fun x => x.1 == h)
def placeI (hs : List (Nat × Value)) (h : Nat) : Int := match placeL hs h with | some i => (i : Int) | none => -1
theorem placeI_some {hs : List (Nat × Value)} {h i k : Nat} {v : Value} (hk : hs[i]? = some (k, v)) (e : k = h) (hn : ∀ j x, j < i → hs[j]? = some x → x.1 ≠ h) : placeI hs h = (i : Int) := by
 have : placeL hs h = some i := by
  unfold placeL
  rw [List.findIdx?_eq_some_iff_getElem]
  obtain ⟨h1, h2⟩ := List.getElem?_eq_some_iff.1 hk
  refine ⟨h1, by simp [h2, e], fun j hj => ?_⟩
  have := hn j _ hj (List.getElem?_eq_getElem (by omega))
  simp [this]
 unfold placeI
 rw [this]
theorem placeI_none {hs : List (Nat × Value)} {h : Nat} (hn : ∀ j x, j < hs.length → hs[j]? = some x → x.1 ≠ h) : placeI hs h = -1 := by
 have : placeL hs h = none := by
  unfold placeL
  rw [List.findIdx?_eq_none_iff]
  intro x hx
  obtain ⟨j, hj, e⟩ := List.getElem_of_mem hx
  have := hn j x hj (by rw [List.getElem?_eq_getElem hj, e])
  simp [this]
 unfold placeI
 rw [this]
set_option maxRecDepth 100000 in
theorem r_place {W : World} {m c : Nat} {p : Option Addr} {hs : List (Nat × Value)} (hm : W.cell? ⟨m, 2, none⟩ = some (.slice p hs.length c)) (hP : HsAt W p hs) (hl : hs.length ≤ 4398046510000) (h : Nat) :
    Calls Tryz.prog 45 #[.pointer (some ⟨m, 0, none⟩), .int .u64 h] W fun e W' => e = .returned (.int .i64 (placeI hs h)) ∧ W' = W := by
 have HP := keepH hP
 obtain ⟨r, hr⟩ : ∃ r, r = placeI hs h := ⟨_, rfl⟩
 rw [← hr]
 have HR := keepH hr
 clear hP hr
 go_enter Tryz.func45, Tryz.ntmps45
 go_wp2_with fail
 go_loopw [5] (fun q wr => ∃ i : Nat, i ≤ hs.length ∧ q = .int .i64 i ∧ wr = W ∧ Hid (∀ j x, j < i → hs[j]? = some x → x.1 ≠ h)) (fun q _ => hs.length - natOf q)
 case atStart => exact ⟨0, Nat.zero_le _, rfl, rfl, fun j x h => absurd h (by omega)⟩
 case round =>
  obtain ⟨i, hil, rfl, rfl, HX⟩ := hrel
  by_cases hlt : i < hs.length
  ·have q1 : (i : Int) < (hs.length : Int) := by omega
   obtain ⟨⟨k, v⟩, hk⟩ : ∃ x, hs[i]? = some x := ⟨hs[i], List.getElem?_eq_getElem hlt⟩
   obtain ⟨bk, off, rfl, hbk, hcs⟩ := HP.out.resolve_left (by intro e; subst e; simp at hk)
   obtain ⟨hk64, c0, c1⟩ := hcs i k v hk
   by_cases e : k = h
   ·have qq : ((k : Int) == (h : Int)) = true := by simp; omega
    have HF : Hid (r = (i : Int)) := by
     show _ = _
     rw [HR.out]
     exact placeI_some hk e HX.out
    clear hk hcs e
    go_wp2_with fail
    (try simp only [Exit.inBlock, Exit.then])
    go_ret
    rw [HF.out]
    exact ⟨rfl, rfl⟩
   ·have qq : ((k : Int) == (h : Int)) = false := by simp; omega
    have HY : Hid (∀ j x, j < i + 1 → hs[j]? = some x → x.1 ≠ h) := fun j x hj hx => by
     by_cases q : j = i
     ·subst q; rw [hk] at hx; injection hx with hx; subst hx; exact e
     ·exact HX.out j x (by omega) hx
    clear hk hcs e
    go_wp2_with fail
    go_roundw
    case rel => exact ⟨i + 1, by omega, by first | rfl | go_num, by trivial, HY⟩
    case measure => exact meas hlt
  ·have q1 : ¬ (i : Int) < (hs.length : Int) := by omega
   obtain rfl : i = hs.length := by omega
   go_wp2_with fail
   go_ret
   refine ⟨?_, rfl⟩
   rw [HR.out, placeI_none HX.out]
   rfl
theorem infoHeld : (Tryz.prog.info? 111).map (fun i => (i.zero, i.size, i.bytes)) = some (some (.agg #[.int .u64 0, .slice none 0 0]), 2, 32) := by kernel_rfl
def hsRow (l : List (Nat × Value)) : List Value := l.flatMap (fun x => [.int .u64 x.1, x.2])
theorem hsRow_len (l : List (Nat × Value)) : (hsRow l).length = l.length * 2 := by
 induction l with
 | nil => rfl
 | cons x l ih => simp [hsRow] at ih ⊢; omega
theorem hsRow_get (l : List (Nat × Value)) : ∀ (i k : Nat) (x : Value), l[i]? = some (k, x) → (hsRow l)[i * 2]? = some (.int .u64 k) ∧ (hsRow l)[i * 2 + 1]? = some x := by
 induction l with
 | nil => intro i k x h; simp at h
 | cons y l ih =>
  intro i k x h
  have e : hsRow (y :: l) = .int .u64 y.1 :: y.2 :: hsRow l := rfl
  rw [e]
  cases i with
  | zero => simp at h; subst h; exact ⟨rfl, rfl⟩
  | succ i =>
   have := ih i k x (by simpa using h)
   rw [show (i + 1) * 2 = i * 2 + 1 + 1 by omega]
   simpa using this
theorem hsRow_inv (l : List (Nat × Value)) : ∀ (j : Nat) (u : Value), (hsRow l)[j]? = some u → ∃ (i k : Nat) (x : Value), l[i]? = some (k, x) ∧ ((j = i * 2 ∧ u = .int .u64 k) ∨ (j = i * 2 + 1 ∧ u = x)) := by
 intro j u h
 have hj := (List.getElem?_eq_some_iff.1 h).1
 rw [hsRow_len] at hj
 obtain ⟨⟨k, x⟩, hk⟩ : ∃ y, l[j / 2]? = some y := ⟨l[j / 2]'(by omega), List.getElem?_eq_getElem _⟩
 have q := hsRow_get l (j / 2) k x hk
 refine ⟨j / 2, k, x, hk, ?_⟩
 rcases Nat.mod_two_eq_zero_or_one j with e | e
 ·have e2 : j = j / 2 * 2 := by omega
  rw [← e2, h] at q
  have := q.1
  injection this with this
  exact .inl ⟨e2, this⟩
 ·have e2 : j = j / 2 * 2 + 1 := by omega
  rw [← e2, h] at q
  have := q.2
  injection this with this
  exact .inr ⟨e2, this⟩
def smallH (l : List (Nat × Value)) : Prop := ∀ x ∈ l, x.1 < 18446744073709551616 ∧ ∃ p n c, x.2 = .slice p n c
theorem hsRow_one (l : List (Nat × Value)) (hs : smallH l) : ∀ u ∈ hsRow l, u.oneCell' = true := by
 intro u hu
 obtain ⟨j, hj⟩ := List.mem_iff_getElem?.1 hu
 obtain ⟨i, k, x, hk, h⟩ := hsRow_inv l j u hj
 rcases h with ⟨_, rfl⟩ | ⟨_, rfl⟩
 ·rfl
 ·obtain ⟨p, n, c, e⟩ := (hs (k, u) (List.mem_of_getElem? hk)).2
  rw [show u = .slice p n c from e]
  rfl
def HRow (W : World) (B : Nat) (v : Value) (l : List (Nat × Value)) : Prop := W.ownsRow B 111 2 v l.length (hsRow l) ∧ smallH l
theorem HRow.nil (W : World) (B : Nat) : HRow W B (.slice none 0 0) [] := ⟨⟨rfl, .inl ⟨rfl, rfl⟩⟩, fun x h => by simp at h⟩
theorem HRow.lt {W : World} {B : Nat} {v : Value} {l : List (Nat × Value)} (h : HRow W B v l) : ∀ b, v.ownBlock = some b → B ≤ b ∧ b < W.heap.size := h.1.lt
theorem HRow.slice {W : World} {B : Nat} {v : Value} {l : List (Nat × Value)} (h : HRow W B v l) : ∃ p c, v = .slice p l.length c ∧ HsAt W p l ∧ l.length ≤ c ∧ (p = none → l = [] ∧ c = 0) ∧ ∀ bk off o, p = some ⟨bk, off, o⟩ → B ≤ bk ∧ off = 0 ∧ o = none := by
 obtain ⟨⟨hl, h⟩, hs⟩ := h
 rcases h with ⟨rfl, e⟩ | ⟨g, cap, cur, rfl, hB, hg, hc, _, _, ht⟩
 ·obtain rfl := List.length_eq_zero_iff.1 e
  exact ⟨none, 0, rfl, .inl rfl, Nat.le_refl _, fun _ => ⟨rfl, rfl⟩, fun bk off o e => by cases e⟩
 ·refine ⟨_, cap, rfl, .inr ⟨g, 0, rfl, lt_of hg, fun i k x hk => ?_⟩, by omega, (fun e => by cases e), fun bk off o e => by injection e with e; injection e with e1 e2 e3; subst e1; exact ⟨hB, e2.symm, e3.symm⟩⟩
  have hm := hs (k, x) (List.mem_of_getElem? hk)
  have hi := (List.getElem?_eq_some_iff.1 hk).1
  obtain ⟨q1, q2⟩ := hsRow_get l i k x hk
  rw [← ht, List.getElem?_take_of_lt (by omega)] at q1 q2
  refine ⟨hm.1, ?_, ?_⟩
  ·rw [cell_of hg]; simpa using q1
  ·rw [cell_of hg]; simpa using q2
theorem HRow.add {W' : World} {B : Nat} {v' : Value} {l : List (Nat × Value)} (hs : smallH l) {k : Nat} {x : Value} (hk : k < 18446744073709551616) (hx : ∃ p n c, x = .slice p n c) (h : W'.ownsRow B 111 2 v' (l.length + 1) (hsRow l ++ [.int .u64 k, x])) : HRow W' B v' (l ++ [(k, x)]) := by
 refine ⟨?_, fun y hy => ?_⟩
 ·have e : hsRow l ++ [.int .u64 k, x] = hsRow (l ++ [(k, x)]) := by simp [hsRow]
  rw [← e]; simpa using h
 ·rcases List.mem_append.1 hy with hy | hy
  ·exact hs y hy
  ·simp at hy; subst hy; exact ⟨hk, hx⟩
theorem HRow.zero {W : World} {B : Nat} {v : Value} {l : List (Nat × Value)} (h : HRow W B v l) : HRow W 0 v l := by
 refine ⟨⟨h.1.1, ?_⟩, h.2⟩
 rcases h.1.2 with h2 | ⟨g, cap, cur, hv, hg, hr⟩
 ·exact .inl h2
 ·exact .inr ⟨g, cap, cur, hv, Nat.zero_le _, hr⟩
theorem HRow.chg {F : Nat → Prop} {W W' : World} {v : Value} {l : List (Nat × Value)} (h : HRow W 0 v l) (c : Chg F W W') (hn : ∀ b, v.ownBlock = some b → ¬ F b) : HRow W' 0 v l :=
 ⟨row_kept h.1 (fun k hk => c.block k (h.lt k hk).2 (hn k hk)), h.2⟩
theorem HsAt.chgF {F : Nat → Prop} {W W' : World} {p : Option Addr} {l : List (Nat × Value)} (h : HsAt W p l) (c : Chg F W W') (hn : ∀ bk off, p = some ⟨bk, off, none⟩ → ¬ F bk) : HsAt W' p l := by
 rcases h with h | ⟨bk, off, rfl, hb, h⟩
 ·exact .inl h
 ·exact .inr ⟨bk, off, rfl, Nat.lt_of_lt_of_le hb c.size, fun i k x hk => by
    obtain ⟨a, c1, c2⟩ := h i k x hk
    exact ⟨a, cell_chg c c1 (hn bk off rfl), cell_chg c c2 (hn bk off rfl)⟩⟩
set_option maxRecDepth 100000 in
theorem app_held {W : World} {B : Nat} {v : Value} {l : List (Nat × Value)} (H : HRow W B v l) {q : Option Addr} {r : List (Nat × Value)} (hq : HsAt W q r) (hr : smallH r) (hok : q = none → r = []) (hl : l.length + r.length ≤ 4398046510000) (hB : B ≤ W.heap.size) (d : Nat) (ty : TypeId) :
    ∃ v' W', (Builtin.append_ #[103, 103] ty #[v, .slice q r.length d]).run Tryz.prog W = .ok v' W' ∧ HRow W' B v' (l ++ r) ∧ Chg (fun k => B ≤ k) W W' := by
 obtain ⟨i0, hi, hz0, hz1, hz2⟩ := info_parts infoHeld
 have sm : smallH (l ++ r) := fun x hx => by
  rcases List.mem_append.1 hx with h | h
  ·exact H.2 x h
  ·exact hr x h
 cases q with
 | none =>
  obtain rfl := hok rfl
  refine ⟨v, W, ?_, by simpa using H, Chg.refl _ _⟩
  obtain ⟨_, ⟨rfl, e0⟩ | ⟨g, cap, cur, rfl, _, hg, hcap, _⟩⟩ := H.1
  ·simp [Builtin.append_, run_underlying Tryz.underlying103, sizeOf, typeInfo, hi, Builtin.lenOf, Builtin.firstCells]
  ·have q : ¬ cap < l.length := by omega
   simp [Builtin.append_, run_underlying Tryz.underlying103, sizeOf, typeInfo, hi, Builtin.lenOf, Builtin.firstCells, loadCells, storeCells, q]
 | some ad =>
  obtain ⟨v', w', hrun, h2, h3, h4, h5⟩ := run_append_own_at (P := Tryz.prog) W B 103 ty 111 i0 (.agg #[.int .u64 0, .slice none 0 0]) 2 32 Tryz.underlying103 hi hz0 hz1 hz2 rfl (by decide) v l.length (hsRow l) H.1 ad r.length d (hsRow r) (hsRow_len r) (fun j u hj => by
   obtain ⟨i, k, x, hk, h⟩ := hsRow_inv r j u hj
   obtain ⟨bk, off, e, hb, hc⟩ := hq.resolve_left (by intro e; subst e; simp at hk)
   injection e with e
   subst e
   obtain ⟨_, q1, q2⟩ := hc i k x hk
   have e : (⟨bk, off, none⟩ : Addr).add j = ⟨bk, off + j, none⟩ := by unfold Addr.add; split <;> simp_all
   rw [e]
   rcases h with ⟨rfl, rfl⟩ | ⟨rfl, rfl⟩
   ·exact q1
   ·exact q2) (hsRow_one r hr) (by unfold maxLen; omega) (by omega) hB
  have e : hsRow l ++ hsRow r = hsRow (l ++ r) := by simp [hsRow]
  rw [e] at h2
  refine ⟨v', w', hrun, ⟨by rw [List.length_append]; exact h2, sm⟩, (Chg.refl _ W).grown h3 (fun k e _ => (H.lt k e).1)⟩
theorem tail_held {l : List (Nat × Value)} {W : World} {g cap : Nat} (hP : HsAt W (some ⟨g, 0, none⟩) l) (hcap : l.length ≤ cap) {i : Nat} (hi : i ≤ l.length) : ∃ ad : Addr, (∀ w, (Instr.slice 103 (.slice (some ⟨g, 0, none⟩) l.length cap) (some (.int .i64 i)) none none).run Tryz.prog w = .ok (.slice (some ad) (l.drop i).length (cap - i)) w) ∧ HsAt W (some ad) (l.drop i) := by
 by_cases e : cap = i
 ·refine ⟨⟨g, 0, none⟩, fun w => ?_, ?_⟩
  ·have hn : l.length = i := by omega
   have hb := run_sliceBound (P := Tryz.prog) (w := w) .i64 (i : Int) i .sliceB (by omega) (by omega)
   simp [Instr.slice, run_underlying Tryz.underlying103, Instr.sliceBounds, Result.andThen, e, hn, hb]
  ·have : l.drop i = [] := List.drop_eq_nil_of_le (by omega)
   rw [this]
   exact .inl rfl
 ·refine ⟨⟨g, i * 2, none⟩, fun w => ?_, ?_⟩
  ·have hb := run_sliceBound (P := Tryz.prog) (w := w) .i64 (i : Int) l.length .sliceB (by omega) (by omega)
   simp [Instr.slice, run_underlying Tryz.underlying103, Instr.sliceBounds, Result.andThen, e, hb, Addr.add]
   intro h0
   omega
  ·by_cases e2 : l.drop i = []
   ·exact .inl e2
   ·obtain ⟨bk, off, e9, hbk, hcs⟩ := hP.resolve_left (by intro q; subst q; simp at e2)
    injection e9 with e9
    injection e9 with e1 e3
    subst e1
    subst e3
    refine .inr ⟨g, i * 2, rfl, hbk, fun j k x hj => ?_⟩
    rw [List.getElem?_drop] at hj
    obtain ⟨a, c, d⟩ := hcs (i + j) k x hj
    refine ⟨a, ?_, ?_⟩
    ·rw [show i * 2 + j * 2 = 0 + (i + j) * 2 by omega]; exact c
    ·rw [show i * 2 + j * 2 + 1 = 0 + (i + j) * 2 + 1 by omega]; exact d
theorem head_held {l : List (Nat × Value)} {W : World} {g cap : Nat} (hP : HsAt W (some ⟨g, 0, none⟩) l) (hcap : l.length ≤ cap) {i : Nat} (hi : i ≤ l.length) : (∀ w, (Instr.slice 103 (.slice (some ⟨g, 0, none⟩) l.length cap) none (some (.int .i64 i)) none).run Tryz.prog w = .ok (.slice (some ⟨g, 0, none⟩) (l.take i).length cap) w) ∧ HsAt W (some ⟨g, 0, none⟩) (l.take i) := by
 refine ⟨fun w => ?_, ?_⟩
 ·have hb := run_sliceBound (P := Tryz.prog) (w := w) .i64 (i : Int) cap .sliceAcap (by omega) (by omega)
  have hm : min i l.length = i := by omega
  simp [Instr.slice, run_underlying Tryz.underlying103, Instr.sliceBounds, Result.andThen, hb, Addr.add, hm]
 ·rcases hP with e | ⟨bk, off, e9, hbk, hcs⟩
  ·subst e; exact .inl (by simp)
  ·refine .inr ⟨bk, off, e9, hbk, fun j k x hj => ?_⟩
   rw [List.getElem?_take] at hj
   split at hj
   ·exact hcs j k x hj
   ·cases hj
theorem nilH (w : World) : (Instr.slice 103 (.slice none 0 0) (some (.int .i64 0)) none none).run Tryz.prog w = .ok (.slice none 0 0) w := by
 have hb := run_sliceBound (P := Tryz.prog) (w := w) .i64 (0 : Int) 0 .sliceB (by omega) (by omega)
 simp [Instr.slice, run_underlying Tryz.underlying103, Instr.sliceBounds, Result.andThen, hb]
structure RMod (W : World) (m : Nat) (mu : Int) (mv hv : Value) (hs : List (Nat × Value)) : Prop where
 at_ : W.heap[m]? = some (.cells #[.int .i64 mu, mv, hv] 105 (0, 0))
 row : HRow W 0 hv hs
theorem RMod.c2 {W : World} {m : Nat} {mu : Int} {mv hv : Value} {hs : List (Nat × Value)} (h : RMod W m mu mv hv hs) : W.cell? ⟨m, 2, none⟩ = some hv := by rw [cell_of h.at_]; rfl
theorem RMod.c1 {W : World} {m : Nat} {mu : Int} {mv hv : Value} {hs : List (Nat × Value)} (h : RMod W m mu mv hv hs) : W.cell? ⟨m, 1, none⟩ = some mv := by rw [cell_of h.at_]; rfl
theorem RMod.c0 {W : World} {m : Nat} {mu : Int} {mv hv : Value} {hs : List (Nat × Value)} (h : RMod W m mu mv hv hs) : W.cell? ⟨m, 0, none⟩ = some (.int .i64 mu) := by rw [cell_of h.at_]; rfl
theorem RMod.ne {W : World} {m : Nat} {mu : Int} {mv hv : Value} {hs : List (Nat × Value)} (h : RMod W m mu mv hv hs) : ∀ b, hv.ownBlock = some b → b ≠ m := by
 intro b hb e
 subst e
 rcases h.row.1.2 with ⟨e, _⟩ | ⟨g, cap, cur, e, _, hg, _⟩
 ·rw [e] at hb; cases hb
 ·rw [e] at hb
  injection hb with hb
  have hb : g = b := hb
  subst hb
  have := h.at_
  rw [hg] at this
  injection this with this
  injection this with _ this
  exact absurd this (by decide)
theorem RMod.quiet {W W' : World} {m : Nat} {mu : Int} {mv hv : Value} {hs : List (Nat × Value)} (h : RMod W m mu mv hv hs) (c : Chg (fun _ => False) W W') : RMod W' m mu mv hv hs :=
 ⟨(c.block m (lt_of h.at_) (fun x => x)).trans h.at_, h.row.chg c (fun _ _ x => x)⟩
theorem RMod.put {W : World} {m : Nat} {mu : Int} {mv hv v : Value} {hs l : List (Nat × Value)} {B : Nat} (h : RMod W m mu mv hv hs) (hr : HRow W B v l) (hB : m < B) : RMod (W.setCell ⟨m, 2, none⟩ v) m mu mv v l := by
 refine ⟨?_, ?_⟩
 ·have := set_of h.at_ 2 v
  exact this
 ·refine hr.zero.chg ((Chg.refl (fun k => k = m) W).setCell (fun _ => rfl) _) (fun b hb e => ?_)
  have := (hr.lt b hb).1
  omega
set_option maxRecDepth 100000 in
theorem r_drop {W : World} {m : Nat} {mu : Int} {mv hv : Value} {hs : List (Nat × Value)} (h : RMod W m mu mv hv hs) (hl : hs.length ≤ 4000000) {i : Nat} (hi : i < hs.length) :
    Calls Tryz.prog 52 #[.pointer (some ⟨m, 0, none⟩), .int .i64 i] W fun e W' => e = .returned (.tuple #[]) ∧ (∃ v, RMod W' m mu mv v (hs.take i ++ hs.drop (i + 1))) ∧ Chg (fun k => k = m) W W' := by
 obtain ⟨p, cap, rfl, hP, hcap, hn, ho⟩ := h.row.slice
 obtain ⟨g, rfl⟩ : ∃ g, p = some ⟨g, 0, none⟩ := by
  cases p with
  | none => rw [(hn rfl).1] at hi; cases hi
  | some a =>
   obtain ⟨b, off, o⟩ := a
   obtain ⟨_, rfl, rfl⟩ := ho b off o rfl
   exact ⟨b, rfl⟩
 have hm := lt_of h.at_
 obtain ⟨s1, P1⟩ := head_held hP hcap (i := i) (by omega)
 obtain ⟨ad, s2, P2⟩ := tail_held hP hcap (i := i + 1) (by omega)
 have sub1 : smallH (hs.take i) := fun x hx => h.row.2 x ((List.take_sublist _ _).subset hx)
 have sub2 : smallH (hs.drop (i + 1)) := fun x hx => h.row.2 x ((List.drop_sublist _ _).subset hx)
 have l1 : (hs.take i).length ≤ hs.length := by rw [List.length_take]; omega
 have l2 : (hs.drop (i + 1)).length ≤ hs.length := by rw [List.length_drop]; omega
 obtain ⟨v1, w1, a1, R1, C1⟩ := app_held (HRow.nil W W.heap.size) P1 sub1 (fun e => by cases e) (by simp only [List.length_nil]; omega) (Nat.le_refl _) cap 103
 rw [List.nil_append] at R1
 have C1' : Chg (fun _ => False) W w1 := (Chg.refl _ W).trans C1 (fun _ _ x => x) (fun j hj e => by omega)
 obtain ⟨v2, w2, a2, R2, C2⟩ := app_held R1 (P2.chgF C1' (fun _ _ _ x => x)) sub2 (fun e => by cases e) (by omega) C1'.size (cap - (i + 1)) 103
 have C2' : Chg (fun _ => False) W w2 := C1'.trans C2 (fun _ _ x => x) (fun j hj e => by omega)
 obtain ⟨p2, c2, rfl, _⟩ := R2.slice
 have M1 := h.quiet C1'
 have M2 := h.quiet C2'
 have HE : Hid (RMod (w2.setCell ⟨m, 2, none⟩ (.slice p2 (hs.take i ++ hs.drop (i + 1)).length c2)) m mu mv (.slice p2 (hs.take i ++ hs.drop (i + 1)).length c2) (hs.take i ++ hs.drop (i + 1)) ∧ Chg (fun k => k = m) W (w2.setCell ⟨m, 2, none⟩ (.slice p2 (hs.take i ++ hs.drop (i + 1)).length c2))) :=
  ⟨M2.put R2 hm, (show Chg (fun k => k = m) W w2 from C2'.mono (fun _ _ x => x.elim)).setCell (fun _ => rfl) _⟩
 have d1 := h.c2
 have d2 := M1.c2
 have d3 := M2.c2
 have d4 : w2.frozen? ⟨m, 2, none⟩ = false := free_of M2.at_ 2
 have t1 := s1 W
 have t2 : (Instr.slice 103 (.slice (some ⟨g, 0, none⟩) hs.length cap) (some (.int .i64 ((i : Int) + 1))) none none).run Tryz.prog w1 = .ok (.slice (some ad) (hs.drop (i + 1)).length (cap - (i + 1))) w1 := s2 w1
 obtain ⟨n1, hn1⟩ : ∃ n, n = (hs.take i).length := ⟨_, rfl⟩
 obtain ⟨n2, hn2⟩ : ∃ n, n = (hs.drop (i + 1)).length := ⟨_, rfl⟩
 obtain ⟨n3, hn3⟩ : ∃ n, n = (hs.take i ++ hs.drop (i + 1)).length := ⟨_, rfl⟩
 rw [← hn3] at a2 HE
 rw [← hn1] at t1 a1
 rw [← hn2] at t2 a2
 clear hn1 hn2 hn3 M1 M2 R1 R2 C1 C2 C1' C2' s1 s2 P1 P2 sub1 sub2 l1 l2 hP hn ho h hm hcap
 go_enter Tryz.func52, Tryz.ntmps52
 go_wp2_with (first | (at_builtin; refine wpList_append_runP rfl _ _ 103 rfl _ _ _ _ rfl rfl a1 ?_) | (at_builtin; refine wpList_append_runP rfl _ _ 103 rfl _ _ _ _ rfl rfl a2 ?_))
 go_end0
 exact ⟨rfl, ⟨_, HE.out.1⟩, HE.out.2⟩
end Go.Proofs.YtahgaghokpicgaaGreat
