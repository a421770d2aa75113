/- Parse of the program, at every text. -/
import Derived.RangeFuncNested
import Derived.RangeFuncBox
import Derived.RangeFuncBound
import Derived.RangeFuncCalls
import Derived.RangeFuncLeaves
import Derived.Shelf.Abstract
import Derived.Shelf.AbstractIn
import Derived.WalkKit
import Derived.OwnWalkIn
import Derived.TacticsInMore
import Derived.RegionIn
import Derived.LoopNIn
import Derived.LoopIn
import Derived.Lib.QuietBelowIn
import Derived.Maps.AppendAt
import Derived.Test.YtfohpbpekdcneaaDoorRng
import Derived.Test.YtfohpbpekdcneaaDoorHSpansP
namespace Go.Proofs.YtfohpbpekdcneaaDoor
open Go.RowKit Go.Shelf
set_option linter.unusedVariables false
attribute [local go_sem] Oper.semAt_some

theorem gd_of {l : List Sp} (hr : RightP l) (hok : ∀ s ∈ l, s.Ok) : ∀ s ∈ l, Gd s := by
  intro s hs
  obtain ⟨i, hi, e⟩ := List.getElem_of_mem hs
  have o := hr i s hi (by rw [List.getElem?_eq_getElem hi, e])
  refine ⟨hok s hs, fun h => ?_⟩
  have := o.fr
  have := o.to
  omega
/-- how the reading of a text ends -/
def PH (t : List UInt8) (l : List Sp) (er : Int) : Prop := (er = 0 ∧ RightP l ∧ (∀ s ∈ l, s.Ok) ∧ t = printL l ∧ ∀ l', RightP l' → (∀ s ∈ l', s.Ok) → t = printL l' → l' = l) ∨ (er = 52 ∧ l = [] ∧ ∀ l', RightP l' → (∀ s ∈ l', s.Ok) → t ≠ printL l')
theorem printL_nil {l : List Sp} (h : printL l = []) : l = [] := by
  cases l with
  | nil => rfl
  | cons s l =>
    obtain ⟨a, _, e⟩ := line_piece s
    rw [printL_cons, e] at h
    simp at h
theorem PH.done {t : List UInt8} {xs : List (Sp × Bool)} (h : RdP xs t []) (hb : ∀ x ∈ xs, x.2 = true) : (RightP (xs.map Prod.fst) → PH t (xs.map Prod.fst) 0) ∧ (¬ RightP (xs.map Prod.fst) → PH t [] 52) ∧ (∀ s ∈ xs.map Prod.fst, s.Ok) := by
  obtain ⟨a, b, c⟩ := h.all hb
  have hok : ∀ s ∈ xs.map Prod.fst, s.Ok := by
    intro s hs
    obtain ⟨x, hx, rfl⟩ := List.mem_map.mp hs
    exact b x hx
  have one : ∀ l', RightP l' → (∀ s ∈ l', s.Ok) → t = printL l' → l' = xs.map Prod.fst := by
    intro l' hr ho e
    obtain ⟨l2, e1, e2⟩ := c l' (gd_of hr ho) e
    rw [printL_nil e2.symm] at e1
    simpa using e1
  refine ⟨fun hr => Or.inl ⟨rfl, hr, hok, by simpa using a, one⟩, fun hr => Or.inr ⟨rfl, rfl, fun l' h1 h2 e => hr ?_⟩, hok⟩
  rw [← one l' h1 h2 e]
  exact h1
theorem rd_last {xs : List (Sp × Bool)} {x : Sp × Bool} {t : List UInt8} : ∀ {r : List UInt8}, RdP (xs ++ [x]) t r → ∃ q p, RdP xs t q ∧ Piece q p r ∧ SpR p x.1 x.2 := by
  induction xs generalizing t with
  | nil =>
    intro r h
    obtain ⟨p, t', h1, h2, h3⟩ := h
    have h3 : t' = r := h3
    subst h3
    exact ⟨t, p, rfl, h1, h2⟩
  | cons y ys ih =>
    intro r h
    obtain ⟨p, t', h1, h2, h3⟩ := h
    obtain ⟨q, p2, g1, g2, g3⟩ := ih h3
    exact ⟨q, p2, ⟨p, t', h1, h2, g1⟩, g2, g3⟩
theorem PH.stop {t : List UInt8} {xs : List (Sp × Bool)} {x : Sp × Bool} (h : RdX (xs ++ [x]) t) (hb : ∀ y ∈ xs, y.2 = true) (hx : x.2 = false) : PH t [] 52 := by
  obtain ⟨r, h⟩ := h
  obtain ⟨q, p, g1, g2, g3⟩ := rd_last h
  rw [hx] at g3
  exact Or.inr ⟨rfl, rfl, fun l' h1 h2 => g1.no hb g2 g3 l' (gd_of h1 h2)⟩

theorem read_stops (n Bs : Nat) (t : List UInt8) (ht : t.length ≤ 200000000) (F : Nat → Prop) (hn : 3 ≤ n) (w : World) (h1 : w.cell? ⟨Bs, 0, none⟩ = some (.string (mkS t))) (hT : ∀ w', Chg F w w' → Tb w') :
    SeqStopsK Fence.wide n Tryd.prog 32 #[.pointer (some ⟨Bs, 0, none⟩)] (fun x : Sp × Bool => #[.agg #[.int .i64 x.1.th, .int .i64 x.1.ix, .int .i64 x.1.fr, .int .i64 x.1.to], .bool x.2]) (Chg F)
      (fun xs => RdP xs t []) (fun pre => RdX pre t) t.length w := fun l J Jx W hW hJ _ hY h0 => by
  exact read_in n l Bs t ht F J Jx hn hY W hJ (cell_chg (belowC hW) h1 (fun x => x)) (fun w' hc => hT w' ((belowC hW).trans hc (fun _ _ x => x.elim) (fun _ _ x => x))) h0
theorem mk_read (t : List UInt8) (w : World) : Calls Tryd.prog 19 #[.string (mkS t)] w fun e w' => e = .returned (.func (.func 32) #[] #[.pointer (some ⟨w.heap.size, 0, none⟩)]) ∧ w' = w.alloc (.cells #[.string (mkS t)] 9) := by
  go_enter Tryd.func19, Tryd.ntmps19
  go_wp2_with fail
  go_ret
  exact ⟨rfl, rfl⟩
theorem infoSp : (Tryd.prog.info? 38).map (fun i => (i.zero, i.size, i.bytes)) = some (some (.agg #[.int .i64 0, .int .i64 0, .int .i64 0, .int .i64 0]), 4, 32) := by kernel_rfl
theorem cells_own {β : Type} (B b : Nat) (cs : Array Value) (ty : TypeId) : OwnFrom B (fun (_ : β) W => W.heap[b]? = some (.cells cs ty (0, 0))) := fun s X Y row hs hg hr => by
  refine (hg.block b (lt_of hs) (fun e => ?_)).trans hs
  obtain ⟨_, o, ho, hc⟩ := hr b e.symm
  rw [hs] at ho
  cases ho; cases hc
theorem four_boxes {W W4 : World} {v0 v1 v2 v3 : Value} {t0 t1 t2 t3 : TypeId} (h : W4 = (((W.alloc (.cells #[v0] t0)).alloc (.cells #[v1] t1)).alloc (.cells #[v2] t2)).alloc (.cells #[v3] t3)) :
    Boxed W4 W.heap.size t0 v0 ∧ Boxed W4 (W.heap.size + 1) t1 v1 ∧ Boxed W4 (W.heap.size + 1 + 1) t2 v2 ∧ Boxed W4 (W.heap.size + 1 + 1 + 1) t3 v3 ∧ Below W.heap.size W W4 ∧ W4.heap.size = W.heap.size + 4 := by
  subst h
  refine ⟨(((Boxed.new W t0 v0).alloc _).alloc _).alloc _, ?_, ?_, ?_, (((((Below.refl _ W).alloc (Nat.le_refl _) _).alloc (by simp) _).alloc (by simp; omega) _).alloc (by simp; omega) _), by simp⟩
  · have := Boxed.new (W.alloc (Obj.cells #[v0] t0)) t1 v1
    rw [World.size_alloc] at this
    exact (this.alloc _).alloc _
  · have := Boxed.new ((W.alloc (Obj.cells #[v0] t0)).alloc (Obj.cells #[v1] t1)) t2 v2
    simp only [World.size_alloc] at this
    exact this.alloc _
  · have := Boxed.new (((W.alloc (Obj.cells #[v0] t0)).alloc (Obj.cells #[v1] t1)).alloc (Obj.cells #[v2] t2)) t3 v3
    simp only [World.size_alloc] at this
    exact this

abbrev FF (W W4 : World) : Nat → Prop := fun k => W4.heap.size ≤ k ∨ k = W.heap.size + 1 + 1 ∨ k = W.heap.size ∨ k = W.heap.size + 1
def PI7 (W W4 : World) (pre : List (Sp × Bool)) (X : World) : Prop :=
  ((∃ v, Boxed X (W.heap.size + 1 + 1) 22 v ∧ X.ownsRow W4.heap.size 38 4 v pre.length (spRow (pre.map Prod.fst)) ∧ (∀ x ∈ pre, x.2 = true)) ∧ (Boxed X W.heap.size 22 (.slice none 0 0) ∧ Boxed X (W.heap.size + 1) 23 (.int .i64 0))) ∧ Chg (FF W W4) W4 X
def PX7 (W W4 : World) (c : Code) (pre : List (Sp × Bool)) (X : World) : Prop :=
  c = .ret ∧ (∃ pre0 x, pre = pre0 ++ [x] ∧ (∀ y ∈ pre0, y.2 = true) ∧ x.2 = false) ∧ (Boxed X W.heap.size 22 (.slice none 0 0) ∧ Boxed X (W.heap.size + 1) 23 (.int .i64 52)) ∧ Chg (FF W W4) W4 X
theorem pi7_own (W W4 : World) : OwnFrom W4.heap.size (PI7 W W4) :=
  OwnFrom.and (OwnFrom.and (Own.from (holdsRow_own W4.heap.size (W.heap.size + 1 + 1) 22 38 4 (fun pre : List (Sp × Bool) => pre.length) (fun pre => spRow (pre.map Prod.fst)) (fun pre _ => ∀ x ∈ pre, x.2 = true)) _) (OwnFrom.and (Own.from (boxed_own W.heap.size 22 (fun _ => .slice none 0 0)) _) (Own.from (boxed_own (W.heap.size + 1) 23 (fun _ => .int .i64 0)) _))) (ownFrom_chg (fun j h => Or.inl h))
theorem px7_own (W W4 : World) (c : Code) : OwnFrom W4.heap.size (PX7 W W4 c) := fun s A B row hs hg hr =>
  ⟨hs.1, hs.2.1, ⟨Own.from (boxed_own W.heap.size 22 (fun _ : Unit => .slice none 0 0)) _ () A B row hs.2.2.1.1 hg hr, Own.from (boxed_own (W.heap.size + 1) 23 (fun _ : Unit => .int .i64 52)) _ () A B row hs.2.2.1.2 hg hr⟩, ownFrom_chg (β := Unit) (fun j h => Or.inl h) () A B row hs.2.2.2 hg hr⟩
def PA7 (W W4 : World) (s : ByteArray) (x : Sp × Bool) (a' : Act) (X : World) : Prop :=
  ∃ Bx, W4.heap.size ≤ Bx ∧ X.heap[Bx]? = some (.cells #[.int .i64 x.1.th, .int .i64 x.1.ix, .int .i64 x.1.fr, .int .i64 x.1.to] 38 (0, 0)) ∧
    a' = { tmps := #[.string s, undef, .pointer (some ⟨W.heap.size, 0, none⟩), .pointer (some ⟨W.heap.size + 1, 0, none⟩), .pointer (some ⟨W.heap.size + 1 + 1, 0, none⟩), .pointer (some ⟨Bx, 0, none⟩), .bool x.2, .string s, .func (.func 32) #[] #[.pointer (some ⟨W.heap.size + 1 + 1 + 1, 0, none⟩)], .agg #[.int .i64 x.1.th, .int .i64 x.1.ix, .int .i64 x.1.fr, .int .i64 x.1.to], .bool x.2, undef, undef, undef, undef, undef, undef, undef, undef, undef, undef], defers := [] }
theorem pa7_own (W W4 : World) (s : ByteArray) (x : Sp × Bool) (a' : Act) : OwnFrom W4.heap.size (fun (_ : Unit) X => PA7 W W4 s x a' X) := fun u A B row ⟨Bx, h1, h2, h3⟩ hg hr => ⟨Bx, h1, cells_own (β := Unit) W4.heap.size Bx _ _ () A B row h2 hg hr, h3⟩
theorem spRow_snoc (l : List Sp) (s : Sp) : spRow (l ++ [s]) = spRow l ++ s.cells := by simp [spRow]
theorem pi7_bel {W W4 X : World} (hB4 : Below W.heap.size W W4) (hC : Chg (FF W W4) W4 X) : Below W.heap.size W X :=
  chg_belowE ((below_chgE hB4).trans hC (H := fun k => W.heap.size ≤ k) (fun _ _ x => x.elim) (fun k _ e => by have := hB4.size; rcases e with e | e | e | e <;> omega))

set_option maxRecDepth 100000 in
set_option maxHeartbeats 8000000 in
theorem parse_any (t : List UInt8) (ht : t.length ≤ 200000000) (W : World) (T : Tb W) :
    Calls Tryd.prog 7 #[.string (mkS t)] W fun e W' => (∃ v er l, e = .returned (.tuple #[v, .int .i64 er]) ∧ PH t l er ∧ W'.ownsRow W.heap.size 38 4 v l.length (spRow l)) ∧ Below W.heap.size W W' := by
  obtain ⟨i0, hi, hz0, hz1, hz2⟩ := info_parts infoSp
  obtain ⟨s, hs⟩ : ∃ s, s = mkS t := ⟨_, rfl⟩
  have hrd := mk_read t
  rw [← hs] at hrd ⊢
  have HS := keepH hs
  have HT := keepH T
  clear hs T
  refine (callsIn_wide (n := 9)).1 ?_
  refine callsIn_of_wp_marks Tryd.func7 rfl trivial ?_ rfl
  simp only [Tryd.ntmps7, List.size_toArray, List.length_cons, List.length_nil, Nat.reduceAdd, Nat.reduceSub, Array.replicate_succ, Array.replicate_zero, List.push_toArray, List.append_toArray, List.nil_append, List.cons_append]
  gi_wp2_with (first | (refine ⟨trivial, ?_⟩; gi_at_call 19; refine (callsIn_wide.2 (hrd _)).mono ?_; rintro e W3 ⟨rfl, rfl⟩))
  obtain ⟨W4, hW4⟩ : ∃ X, X = (((W.alloc (Obj.cells #[Value.slice none 0 0] 22)).alloc (Obj.cells #[Value.int IntKind.i64 0] 23)).alloc (Obj.cells #[Value.slice none 0 0] 22)).alloc (Obj.cells #[Value.string s] 9) := ⟨_, rfl⟩
  rw [← hW4]
  obtain ⟨r0, r1, r2, r3, hB4, hs4⟩ := four_boxes hW4
  clear hW4
  have HB4 := keepH hB4
  have hsz : W4.heap.size = W.heap.size + 4 := hs4
  have HTB : ∀ w', Chg (FF W W4) W4 w' → Tb w' := fun w' hc => HT.out.on (pi7_bel HB4.out hc)
  have HTT := keepH HTB
  clear hB4 hs4 HTB
  have c3 := r3.cell
  rw [HS.out] at c3
  refine wpIn_rangeFunc_ownH rfl (by omega) (gf := 32) (lb := #[.pointer (some ⟨W.heap.size + 1 + 1 + 1, 0, none⟩)]) rfl trivial (enters_of Tryd.func32 (by kernel_rfl) rfl)
    (read_stops 8 _ t ht (FF W W4) (by omega) W4 c3 HTT.out)
    (fun h k => h.trans k (fun _ _ x => x) (fun _ _ x => x)) (chgK_b (fun j h => Or.inl h)) (Below.refl _ _) (fun _ => rfl)
    (PI7 W W4) (PX7 W W4) (pi7_own W W4) (px7_own W W4)
    ⟨⟨⟨_, r2, World.ownsRow_nil _ _ _ _, (fun x hx => by simp at hx)⟩, r0, r1⟩, Chg.refl _ _⟩
    (PA7 W W4 s) (pa7_own W W4 s) ?assign ?body ?done ?stop
  case assign =>
    rintro l pre x X K hi hK
    gi_wp2
    exact hK _ _ ((KeepsOthers.alloc _ _).from _) ((Chg.refl _ X).alloc _) ((pi7_own W W4).alloc _ hi) ⟨X.heap.size, hi.2.size, heap_alloc_new _ _, rfl⟩
  case body =>
    rintro l pre x a' X hl hloop ⟨⟨⟨v, hv, hrow, hall⟩, h4, h5⟩, hC⟩ ⟨Bx, hBx, hXb, rfl⟩ hlt
    obtain ⟨y, b⟩ := x
    cases b with
    | false =>
      have c4 := h4.cell
      have f4 := h4.frozen
      have c5 : (X.setCell ⟨W.heap.size, 0, none⟩ (.slice none 0 0)).cell? ⟨W.heap.size + 1, 0, none⟩ = some (.int .i64 0) := (h5.other (by omega) _).cell
      have f5 : (X.setCell ⟨W.heap.size, 0, none⟩ (.slice none 0 0)).frozen? ⟨W.heap.size + 1, 0, none⟩ = false := (h5.other (by omega) _).frozen
      gi_wp2
      obtain ⟨E, hE⟩ : ∃ E, E = (X.setCell ⟨W.heap.size, 0, none⟩ (.slice none 0 0)).setCell ⟨W.heap.size + 1, 0, none⟩ (.int .i64 52) := ⟨_, rfl⟩
      rw [← hE]
      obtain ⟨k1, k2, k3, k4⟩ := ret_end hE (Below.refl _ X) h4 h5 hC (Or.inr (Or.inr (Or.inl rfl))) (Or.inr (Or.inr (Or.inr rfl)))
      exact ⟨k1.from _, ⟨rfl, ⟨pre, (y, false), rfl, hall, rfl⟩, ⟨k2, k3⟩, k4⟩⟩
    | true =>
      have c6 := hv.cell
      have g0 := cell_of hXb 0
      have g1 := cell_of hXb 1
      have g2 := cell_of hXb 2
      have g3 := cell_of hXb 3
      have HLN : Hid (pre.length < 200000001) := keepH (by omega)
      gi_wp2_with (gi_at_builtin; refine wpListIn_append_own _ rfl _ _ 22 rfl W4.heap.size 38 i0 (.agg #[.int .i64 0, .int .i64 0, .int .i64 0, .int .i64 0]) 4 32 Tryd.underlying22 hi hz0 hz1 hz2 rfl (by decide) _ _ _ rfl (hrow.alloc _) ⟨X.heap.size, 0, none⟩ 1 1 [.int .i64 y.th, .int .i64 y.ix, .int .i64 y.fr, .int .i64 y.to] rfl rfl (cells_newE _ _ rfl _ _) (by intro u hu; simp at hu; rcases hu with rfl | rfl | rfl | rfl <;> rfl) (by unfold maxLen; have := HLN.out; omega) (by have := HLN.out; omega) (Nat.le_trans hC.size (by simp)) ?_; intro v' w1 hown' hgrow _; obtain ⟨g', cap', rfl⟩ := ownsRow_succ hown'; obtain ⟨hv1, hv3, hr3, hk3, hc3⟩ := box_add (F := FF W W4) hv (by decide) hrow hown' hgrow (fun j h => Or.inl h) (Or.inr (Or.inl rfl)); have hc1 := hv1.cell; have hf1 := hv1.frozen)
      refine ⟨hk3.from _, hc3, ⟨⟨⟨_, hv3, ?_, ?_⟩, ?_, ?_⟩, hC.trans hc3 (fun _ _ x => x) (fun _ _ x => x)⟩⟩
      · rw [List.map_append, List.length_append]
        simp only [List.map_cons, List.map_nil, List.length_cons, List.length_nil]
        rw [spRow_snoc]
        simpa [Sp.cells] using hr3
      · intro z hz
        rcases List.mem_append.mp hz with hz | hz
        · exact hall z hz
        · simp at hz; subst hz; rfl
      · exact ((h4.alloc _).kept hgrow (fun e => by have := (hrow.lt _ e.symm).1; omega)).other (by omega) _
      · exact ((h5.alloc _).kept hgrow (fun e => by have := (hrow.lt _ e.symm).1; omega)).other (by omega) _
  case done =>
    rintro D ys X hD hS ⟨⟨⟨v, hv, hrow, hall⟩, h4, h5⟩, hC⟩ hK
    obtain ⟨pv, cv, rfl⟩ := slice_row hrow
    obtain ⟨p1, p2, p3⟩ := PH.done hS hall
    have hlen : ys.length ≤ 200000000 := by have := RdP.len hS; omega
    have hsr : SReads X pv (ys.map Prod.fst) := SReads.of_row (c := cv) (by rw [List.length_map]; exact row_base hrow (Nat.zero_le _))
    have hR := h_right pv cv (ys.map Prod.fst) X hsr p3 (by rw [List.length_map]; omega)
    rw [List.length_map] at hR
    have hc := hv.cell
    by_cases hr : RightP (ys.map Prod.fst)
    · have hR1 : Calls Tryd.prog 13 #[.slice pv ys.length cv] X fun e W' => e = .returned (.int .i64 0) ∧ Below X.heap.size X W' := hR.mono (by
        rintro e W' ⟨x, rfl, hx, C1⟩
        rcases hx with ⟨_, rfl⟩ | ⟨q, _⟩
        · exact ⟨rfl, chgB C1⟩
        · exact absurd hr q)
      have HPH := keepH (p1 hr)
      clear hR p1 p2 p3 hr hsr
      gi_wp2_with (first | (refine ⟨trivial, ?_⟩; gi_at_call 13; refine (callsIn_wide.2 hR1).mono ?_; rintro e X1 ⟨rfl, hb1⟩; have d6 := (box_below hv hb1).cell; have d4 := (box_below h4 hb1).cell; have e4 := (box_below h4 hb1).frozen; have d5 := ((box_below h5 hb1).other (show W.heap.size + 1 ≠ W.heap.size by omega) (.slice pv ys.length cv)).cell; have e5 := ((box_below h5 hb1).other (show W.heap.size + 1 ≠ W.heap.size by omega) (.slice pv ys.length cv)).frozen))
      obtain ⟨E, hE⟩ : ∃ E, E = (X1.setCell ⟨W.heap.size, 0, none⟩ (.slice pv ys.length cv)).setCell ⟨W.heap.size + 1, 0, none⟩ (.int .i64 0) := ⟨_, rfl⟩
      rw [← hE]
      obtain ⟨k1, k2, k3, k4⟩ := ret_end hE hb1 h4 h5 hC (Or.inr (Or.inr (Or.inl rfl))) (Or.inr (Or.inr (Or.inr rfl)))
      have hKE := k1.same D _ hK rfl
      refine ⟨by simp, .inl ⟨_, _, rfl, run_takeDeferred hKE, ?_⟩⟩
      have g4 := (Own.putObj (boxed_own W.heap.size 22 (fun _ : Unit => .slice pv ys.length cv)) (s := ()) (.deferred none) k2 hKE rfl : Boxed _ _ _ _).cell
      have g5 := (Own.putObj (boxed_own (W.heap.size + 1) 23 (fun _ : Unit => .int .i64 0)) (s := ()) (.deferred none) k3 hKE rfl : Boxed _ _ _ _).cell
      refine ⟨.tuple #[.slice pv ys.length cv, .int .i64 0], (by simp [results, Tryd.results7, go_sem, g4, g5]), ⟨_, 0, ys.map Prod.fst, rfl, HPH.out, ?_⟩, ?_⟩
      · rw [List.length_map]
        exact row_base (ownsRow_putObj (row_set hE (row_chg0 hrow (below_chgE hb1)) (by omega) (by omega)) _ hKE rfl) (by omega)
      · exact chg_belowE (((below_chgE HB4.out).trans k4 (H := fun k => W.heap.size ≤ k) (fun _ _ x => x.elim) (fun k _ e => by rcases e with e | e | e | e <;> omega)).grown (grownBy_putObj' _ _ _) (fun k e _ => by cases e; omega))
    · have hR1 : Calls Tryd.prog 13 #[.slice pv ys.length cv] X fun e W' => e = .returned (.int .i64 50) ∧ Below X.heap.size X W' := hR.mono (by
        rintro e W' ⟨x, rfl, hx, C1⟩
        rcases hx with ⟨q, _⟩ | ⟨_, rfl⟩
        · exact absurd q hr
        · exact ⟨rfl, chgB C1⟩)
      have HPH := keepH (p2 hr)
      clear hR p1 p2 p3 hr hsr
      gi_wp2_with (first | (refine ⟨trivial, ?_⟩; gi_at_call 13; refine (callsIn_wide.2 hR1).mono ?_; rintro e X1 ⟨rfl, hb1⟩; have d6 := (box_below hv hb1).cell; have d4 := (box_below h4 hb1).cell; have e4 := (box_below h4 hb1).frozen; have d5 := ((box_below h5 hb1).other (show W.heap.size + 1 ≠ W.heap.size by omega) (.slice none 0 0)).cell; have e5 := ((box_below h5 hb1).other (show W.heap.size + 1 ≠ W.heap.size by omega) (.slice none 0 0)).frozen))
      obtain ⟨E, hE⟩ : ∃ E, E = (X1.setCell ⟨W.heap.size, 0, none⟩ (.slice none 0 0)).setCell ⟨W.heap.size + 1, 0, none⟩ (.int .i64 52) := ⟨_, rfl⟩
      rw [← hE]
      obtain ⟨k1, k2, k3, k4⟩ := ret_end hE hb1 h4 h5 hC (Or.inr (Or.inr (Or.inl rfl))) (Or.inr (Or.inr (Or.inr rfl)))
      have hKE := k1.same D _ hK rfl
      refine ⟨by simp, .inl ⟨_, _, rfl, run_takeDeferred hKE, ?_⟩⟩
      have g4 := (Own.putObj (boxed_own W.heap.size 22 (fun _ : Unit => .slice none 0 0)) (s := ()) (.deferred none) k2 hKE rfl : Boxed _ _ _ _).cell
      have g5 := (Own.putObj (boxed_own (W.heap.size + 1) 23 (fun _ : Unit => .int .i64 52)) (s := ()) (.deferred none) k3 hKE rfl : Boxed _ _ _ _).cell
      refine ⟨.tuple #[.slice none 0 0, .int .i64 52], (by simp [results, Tryd.results7, go_sem, g4, g5]), ⟨_, 52, [], rfl, HPH.out, World.ownsRow_nil _ _ _ _⟩, ?_⟩
      exact chg_belowE (((below_chgE HB4.out).trans k4 (H := fun k => W.heap.size ≤ k) (fun _ _ x => x.elim) (fun k _ e => by rcases e with e | e | e | e <;> omega)).grown (grownBy_putObj' _ _ _) (fun k e _ => by cases e; omega))
  case stop =>
    rintro D c pre X hD hSp ⟨rfl, ⟨pre0, x, rfl, hall, hx⟩, ⟨h4, h5⟩, hC⟩ hK
    gi_wp2
    refine ⟨by simp, .inl ⟨_, _, rfl, run_takeDeferred hK, ?_⟩⟩
    have g4 := (Own.putObj (boxed_own W.heap.size 22 (fun _ : Unit => .slice none 0 0)) (s := ()) (.deferred none) h4 hK rfl : Boxed _ _ _ _).cell
    have g5 := (Own.putObj (boxed_own (W.heap.size + 1) 23 (fun _ : Unit => .int .i64 52)) (s := ()) (.deferred none) h5 hK rfl : Boxed _ _ _ _).cell
    refine ⟨.tuple #[.slice none 0 0, .int .i64 52], (by simp [results, Tryd.results7, go_sem, g4, g5]), ⟨_, 52, [], rfl, PH.stop hSp hall hx, World.ownsRow_nil _ _ _ _⟩, ?_⟩
    exact chg_belowE (((below_chgE HB4.out).trans hC (H := fun k => W.heap.size ≤ k) (fun _ _ x => x.elim) (fun k _ e => by rcases e with e | e | e | e <;> omega)).grown (grownBy_putObj' _ _ _) (fun k e _ => by cases e; omega))
end Go.Proofs.YtfohpbpekdcneaaDoor
