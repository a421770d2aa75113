/- Histories: a span, an event; the small calls over them: pending, ahead, possible; maps of ints. -/
import Derived.Test.YtfohpbpekdcneaaDoorFr
import Derived.Maps.OwnSet
namespace Go.Proofs.YtfohpbpekdcneaaDoor
open Go.RowKit Go.Maps

structure Sp where
  th : Int
  ix : Int
  fr : Int
  to : Int
def isI (x : Int) : Prop := -9223372036854775808 ≤ x ∧ x < 9223372036854775808
structure Sp.Ok (s : Sp) : Prop where
  th : isI s.th
  ix : isI s.ix
  fr : isI s.fr
  to : isI s.to
def Sp.cells (s : Sp) : List Value := [.int .i64 s.th, .int .i64 s.ix, .int .i64 s.fr, .int .i64 s.to]
def aheadB (s t : Sp) : Bool := decide (0 ≤ s.to) && decide (s.to < t.fr)

theorem cell_chg {F : Nat → Prop} {W W' : World} (h : Chg F W W') {a : Addr} {v : Value} (hc : W.cell? a = some v) (hn : ¬ F a.block) : W'.cell? a = some v := by
  have hlt : a.block < W.heap.size := by
    by_cases cb : a.block < W.heap.size
    · exact cb
    · simp [World.cell?, Array.getElem?_eq_none (show W.heap.size ≤ a.block by omega)] at hc
  exact (World.cell?_of_block (w := W) (h.block _ hlt hn)).trans hc
theorem chg0_drew (W : World) : Chg (fun _ => False) W W.drew := ⟨rfl, rfl, rfl, Nat.le_refl _, fun _ _ _ => rfl⟩

set_option maxRecDepth 100000 in
theorem h_pending (a b c d : Int) (W : World) : Calls Tryd.prog 28 #[.agg #[.int .i64 a, .int .i64 b, .int .i64 c, .int .i64 d]] W fun e W' => e = .returned (.bool (decide (d < 0))) ∧ Chg (fun _ => False) W W' := by
  go_enter Tryd.func28, Tryd.ntmps28
  go_wp2_with fail
  go_ret
  exact ⟨by simp, (Chg.refl _ _).alloc _⟩

set_option maxRecDepth 100000 in
theorem h_ahead (a b c d a' b' c' d' : Int) (W : World) : Calls Tryd.prog 26 #[.agg #[.int .i64 a, .int .i64 b, .int .i64 c, .int .i64 d], .agg #[.int .i64 a', .int .i64 b', .int .i64 c', .int .i64 d']] W fun e W' => e = .returned (.bool (decide (0 ≤ d) && decide (d < c'))) ∧ Chg (fun _ => False) W W' := by
  go_enter Tryd.func26, Tryd.ntmps26
  go_wp2_with fail
  refine (h_pending a b c d _).mono ?_
  rintro e W1 ⟨rfl, C1⟩
  have cd : W1.cell? ⟨W.heap.size, 3, none⟩ = some (.int .i64 d) := cell_chg C1 (by simp) (fun h => h)
  have cf : W1.cell? ⟨W.heap.size + 1, 2, none⟩ = some (.int .i64 c') := cell_chg C1 (by simp) (fun h => h)
  have HC := keepH (((Chg.refl (fun _ => False) W).alloc (.cells #[.int .i64 a, .int .i64 b, .int .i64 c, .int .i64 d] 38)).alloc (.cells #[.int .i64 a', .int .i64 b', .int .i64 c', .int .i64 d'] 38) |>.trans C1 (H := fun _ => False) (fun _ _ x => x) (fun _ _ x => x))
  clear C1
  by_cases h : d < 0
  · have t0 : ¬ (0 ≤ d) := by omega
    go_wp2_with fail
    go_ret
    exact ⟨by simp; omega, HC.out⟩
  · have t0 : 0 ≤ d := by omega
    go_wp2_with fail
    go_ret
    exact ⟨by simp [t0], HC.out⟩

set_option maxRecDepth 100000 in
theorem h_possible (a b c d : Int) (W : World) : Calls Tryd.prog 24 #[.agg #[.int .i64 a, .int .i64 b, .int .i64 c, .int .i64 d]] W fun e W' => e = .returned (.bool (decide (0 ≤ c) && (decide (d = -1) || decide (c ≤ d)))) ∧ Chg (fun _ => False) W W' := by
  by_cases h1 : 0 ≤ c
  · by_cases h2 : d = -1
    · subst h2
      go_enter Tryd.func24, Tryd.ntmps24
      go_wp2_with fail
      go_ret
      exact ⟨by simp [h1], (Chg.refl _ _).alloc _⟩
    · go_enter Tryd.func24, Tryd.ntmps24
      go_wp2_with fail
      go_ret
      exact ⟨by simp [h1, h2], (Chg.refl _ _).alloc _⟩
  · go_enter Tryd.func24, Tryd.ntmps24
    go_wp2_with fail
    go_ret
    exact ⟨by simp; omega, (Chg.refl _ _).alloc _⟩

/-- Spans that came in, or lie in a row. -/
def SReads (W : World) (p : Option Addr) (l : List Sp) : Prop :=
  l = [] ∨ ∃ bk off, p = some ⟨bk, off, none⟩ ∧ bk < W.heap.size ∧ ∀ (i : Nat) s, l[i]? = some s → ∀ (j : Nat) u, s.cells[j]? = some u → W.cell? ⟨bk, off + i * 4 + j, none⟩ = some u
theorem SReads.get {W : World} {p : Option Addr} {l : List Sp} (h : SReads W p l) (i : Nat) (s : Sp) (hs : l[i]? = some s) : ∃ bk off, p = some ⟨bk, off, none⟩ ∧ bk < W.heap.size ∧ W.cell? ⟨bk, off + i * 4, none⟩ = some (.int .i64 s.th) ∧ W.cell? ⟨bk, off + i * 4 + 1, none⟩ = some (.int .i64 s.ix) ∧ W.cell? ⟨bk, off + i * 4 + 2, none⟩ = some (.int .i64 s.fr) ∧ W.cell? ⟨bk, off + i * 4 + 3, none⟩ = some (.int .i64 s.to) := by
  rcases h with rfl | ⟨bk, off, rfl, hb, h⟩
  · simp at hs
  · exact ⟨bk, off, rfl, hb, h i s hs 0 _ rfl, h i s hs 1 _ rfl, h i s hs 2 _ rfl, h i s hs 3 _ rfl⟩
theorem SReads.chg {W X : World} {p : Option Addr} {l : List Sp} {F : Nat → Prop} (h : SReads W p l) (hc : Chg F W X) (hF : ∀ q, p = some q → ¬ F q.block) : SReads X p l := by
  rcases h with rfl | ⟨bk, off, rfl, hb, h⟩
  · exact .inl rfl
  · exact .inr ⟨bk, off, rfl, Nat.lt_of_lt_of_le hb hc.size, fun i s hs j u hu => cell_chg hc (h i s hs j u hu) (fun x => hF _ rfl x)⟩

set_option maxRecDepth 100000 in
theorem h_next0 (p : Option Addr) (n c : Nat) (num : Int) (W : World) : Calls Tryd.prog 25 #[.slice p n c, .int .i64 num, .bool false] W fun e W' => e = .returned (.int .i64 0) ∧ W' = W := by
  go_enter Tryd.func25, Tryd.ntmps25
  go_wp2_with fail
  go_ret
  exact ⟨by simp, rfl⟩
set_option maxRecDepth 100000 in
theorem h_next (p : Option Addr) (c : Nat) (l : List Sp) (num : Nat) (s : Sp) (W : World) (h : SReads W p l) (hs : l[num]? = some s) : Calls Tryd.prog 25 #[.slice p l.length c, .int .i64 (num : Int), .bool true] W fun e W' => e = .returned (.int .i64 (wrap64 (s.ix + 1))) ∧ W' = W := by
  obtain ⟨bk, off, rfl, hb, c0, c1, c2, c3⟩ := h.get num s hs
  have hl : num < l.length := (List.getElem?_eq_some_iff.1 hs).1
  have t1 : (num : Int) < (l.length : Int) := by omega
  clear h hs
  go_enter Tryd.func25, Tryd.ntmps25
  go_wp2_with fail
  go_ret
  exact ⟨by simp, rfl⟩

/-- A map of ints: of each number what it tells, or nothing. -/
def IMap (W : World) (b n : Nat) (f : Int → Option Int) : Prop :=
  ∃ D : DataW Unit, W.ownsMap Tryd.prog 3 (plainElem Tryd.prog 3) b n D ∧ ∀ x, isI x → (f x = none → Maps.has D (.int .i64 x) = false) ∧ (∀ c, f x = some c → Maps.has D (.int .i64 x) = true ∧ D.atKey (.int .i64 x) (.lit (.int .i64 0)) = .lit (.int .i64 c))
theorem lawInt : Keyed Tryd.prog 3 := int_keyed Tryd.underlying3
theorem zeroInt (w : World) : (zeroValue 3).run Tryd.prog w = .ok (.int .i64 0) w := by kernel_rfl
theorem wf_isI {x : Int} (h : isI x) : (Lit.int .i64 x).wf = true := WalkArith.wf_i64 (by have := h.1; have := h.2; omega)
def updI (f : Int → Option Int) (x : Int) (c : Int) : Int → Option Int := fun y => if y = x then some c else f y
theorem IMap.made (W : World) : IMap (W.alloc (.map #[] 0)) W.heap.size 0 (fun _ => none) := ⟨_, World.ownsMap_made _ _ _ _, fun x _ => ⟨fun _ => rfl, fun c e => by simp at e⟩⟩
theorem IMap.lt {W : World} {b n : Nat} {f : Int → Option Int} (h : IMap W b n f) : b < W.heap.size := by
  obtain ⟨D, hD, _⟩ := h
  exact hD.lt
theorem IMap.chg {W X : World} {b n : Nat} {f : Int → Option Int} {F : Nat → Prop} (h : IMap W b n f) (hc : Chg F W X) (hF : ¬ F b) : IMap X b n f := by
  have hb := h.lt
  obtain ⟨D, ⟨es, clock, he, r⟩, hf⟩ := h
  exact ⟨D, ⟨es, clock, (hc.block b hb hF).trans he, r⟩, hf⟩
theorem IMap.mono {W : World} {b n m : Nat} {f : Int → Option Int} (h : IMap W b n f) (hm : n ≤ m) : IMap W b m f := by
  obtain ⟨D, hD, hf⟩ := h
  exact ⟨D, hD.mono hm, hf⟩

section
variable {w : World} {ops : Array Oper} {rest : List Oper} {o : Oper} {a : Act} {Q : Exit → Act → World → Prop}
theorem look_some (hg : o.guard = none) (m x : Operand) (hop : o.op = Op.lookup 55 m x true) (b n : Nat) (f : Int → Option Int) (hm : a.eval m = .map (some b)) (h : IMap w b n f) (k c : Int) (hx : a.eval x = .int .i64 k) (hk : isI k) (hf : f k = some c)
    (hK : wpList Tryd.prog ops Q rest (a.put o.dst (.tuple #[.int .i64 c, .bool true])) w) : wpList Tryd.prog ops Q (o :: rest) a w := by
  obtain ⟨D, hD, hD2⟩ := h
  obtain ⟨h1, h2⟩ := (hD2 k hk).2 c hf
  refine wpList_lookup_own_ok_int w hg m x 55 hop 3 3 .i64 lawInt Tryd.underlying55 Tryd.underlying3 (zeroInt _) b n D hm hD _ _ hx (keyOf_int_mk Tryd.underlying3 (wf_isI hk)) ?_
  intro c' hat _
  have e : (DataW.lit (.int .i64 c) : DataW Unit) = .lit (.int .i64 c') := h2.symm.trans hat
  simp at e
  rw [h1, ← e]
  exact hK
theorem look_none (hg : o.guard = none) (m x : Operand) (hop : o.op = Op.lookup 55 m x true) (b n : Nat) (f : Int → Option Int) (hm : a.eval m = .map (some b)) (h : IMap w b n f) (k : Int) (hx : a.eval x = .int .i64 k) (hk : isI k) (hf : f k = none)
    (hK : wpList Tryd.prog ops Q rest (a.put o.dst (.tuple #[.int .i64 0, .bool false])) w) : wpList Tryd.prog ops Q (o :: rest) a w := by
  obtain ⟨D, hD, hD2⟩ := h
  have h1 := (hD2 k hk).1 hf
  refine wpList_lookup_own_ok_int w hg m x 55 hop 3 3 .i64 lawInt Tryd.underlying55 Tryd.underlying3 (zeroInt _) b n D hm hD _ _ hx (keyOf_int_mk Tryd.underlying3 (wf_isI hk)) ?_
  intro c' hat _
  rw [atKey_of_not_has h1] at hat
  simp at hat
  rw [h1, ← hat]
  exact hK
theorem put_imap (hg : o.guard = none) (m x v : Operand) (hop : o.op = Op.mapUpdate 55 m x v) (b n : Nat) (f : Int → Option Int) (hm : a.eval m = .map (some b)) (h : IMap w b n f) (hn : n < maxLen) (k c : Int) (hx : a.eval x = .int .i64 k) (hv : a.eval v = .int .i64 c) (hk : isI k) (hc : isI c)
    (hK : ∀ w', IMap w' b (n + 1) (updI f k c) → Chg (fun i => i = b) w w' → wpList Tryd.prog ops Q rest (a.put o.dst undef) w') : wpList Tryd.prog ops Q (o :: rest) a w := by
  obtain ⟨D, hD, hD2⟩ := h
  refine wpList_mapUpdate_in w hg m x v 55 hop 3 3 lawInt Tryd.underlying55 _ b n D hm hD hn _ _ _ hx hv (keyOf_int_mk Tryd.underlying3 (wf_isI hk)) _ [] (plainElem_int Tryd.underlying3 (wf_isI hc)) ?_
  intro w' h1 h2
  have g := h2.grown
  refine hK w' ⟨_, h1, fun y hy => ?_⟩ ⟨g.os, g.tape, g.output, g.size, fun i hi hne => g.block i hi (fun e => hne (by simpa using e))⟩
  unfold updI
  by_cases e : y = k
  · subst e
    rw [if_pos rfl]
    refine ⟨fun e => by simp at e, fun c' e => ?_⟩
    simp at e
    subst e
    exact ⟨has_put_same hD.isMap (k := .int .i64 y) (show WideAt.IsKeyLit (.int .i64 y) from trivial) _, atKey_put_same hD.isMap (k := .int .i64 y) (show WideAt.IsKeyLit (.int .i64 y) from trivial) _ _⟩
  · rw [if_neg e]
    have hne : (Lit.int .i64 y) ≠ .int .i64 k := by simp [e]
    refine ⟨fun e => ?_, fun c' e => ?_⟩
    · rw [has_put_other hne]
      exact (hD2 y hy).1 e
    · rw [has_put_other hne, atKey_put_other hne]
      exact (hD2 y hy).2 c' e
end

def ownB (f : Int → Option Int) (x t : Int) : Bool := match f x with | none => true | some u => decide (u = t)
set_option maxRecDepth 100000 in
theorem h_own (b n : Nat) (f : Int → Option Int) (x t : Int) (W : World) (h : IMap W b n f) (hn : n < maxLen) (hx : isI x) (ht : isI t) :
    Calls Tryd.prog 27 #[.map (some b), .int .i64 x, .int .i64 t] W fun e W' => e = .returned (.bool (ownB f x t)) ∧ IMap W' b (n + 1) (updI f x t) ∧ Chg (fun i => i = b) W W' := by
  have H := keepH h
  clear h
  cases hf : f x with
  | none =>
    have hB : ownB f x t = true := by rw [ownB, hf]
    have HF := keepH hf
    clear hf
    go_enter Tryd.func27, Tryd.ntmps27
    go_wp2_with (first
      | (at_lookup; refine look_none rfl _ _ rfl b n f rfl H.out x rfl hx HF.out ?_)
      | (at_mapUpdate; refine put_imap rfl _ _ _ rfl b n f rfl H.out hn x t rfl rfl hx ht ?_; intro w1 I1 C1)
      | go_in)
    go_ret
    exact ⟨by simp [hB], I1, C1⟩
  | some u =>
    have hB : ownB f x t = decide (u = t) := by rw [ownB, hf]
    have HF := keepH hf
    clear hf
    go_enter Tryd.func27, Tryd.ntmps27
    go_wp2_with (first
      | (at_lookup; refine look_some rfl _ _ rfl b n f rfl H.out x u rfl hx HF.out ?_)
      | (at_mapUpdate; refine put_imap rfl _ _ _ rfl b n f rfl H.out hn x t rfl rfl hx ht ?_; intro w1 I1 C1)
      | go_in)
    go_ret
    exact ⟨by simp [hB]; by_cases e : u = t <;> simp [e], I1, C1⟩
end Go.Proofs.YtfohpbpekdcneaaDoor
