/- A copy of a script in memory of its own, by the document. (mkSeu.py) -/
import Derived.Test.YtmmaniolaljjlaaGreatDoorP9Ops
import Derived.Deep.RegionHeld
import Derived.Test.YtmmaniolaljjlaaGreatDoorP14Sfb
import Derived.Test.YtmmaniolaljjlaaGreatDoorP15Scr
import Derived.Test.YtmmaniolaljjlaaGreatDoorP13Scp
namespace Go.Proofs.YtmmaniolaljjlaaGreatDoor
open Go.RowKit Go.Shelf Go.Maps
set_option linter.unusedVariables false

theorem row_form {W : World} {e : TypeId} {s n : Nat} {v : Value} {xs : List Value} (h : W.ownsRow 0 e s v n xs) : ∃ p c, v = .slice p n c := by
  rcases h.2 with ⟨hv, h0⟩ | ⟨g, cap, cur, hv, _⟩
  · exact ⟨none, 0, by rw [hv, h0]⟩
  · exact ⟨_, cap, hv⟩
end Go.Proofs.YtmmaniolaljjlaaGreatDoor
/- A script of one's own that is read line by line: what lies in memory. -/
namespace Go.Proofs.YtmmaniolaljjlaaGreatDoor
open Go.RowKit Go.Shelf Go.Maps
set_option linter.unusedVariables false

def rowTy (t : TypeId) : Prop := t = 3 ∨ t = 75 ∨ t = 28
/-- a block that such a script owns -/
def OwnT (Z W : World) (b : Nat) : Prop := Z.heap.size ≤ b ∧ (∃ cur t, W.heap[b]? = some (.cells cur t (0, 0)) ∧ rowTy t) ∧ ∀ x : Int, W.cell? ⟨b, 0, none⟩ ≠ some (.int .u64 x)
theorem OwnT.eq {Z W X : World} {b : Nat} (h : OwnT Z X b) (e : X.heap[b]? = W.heap[b]?) : OwnT Z W b :=
  ⟨h.1, by rw [← e]; exact h.2.1, fun x => by rw [← World.cell?_of_block (w := W) (w' := X) (a := ⟨b, 0, none⟩) e]; exact h.2.2 x⟩
def ChO (Z a b : World) : Prop := Chg (OwnT Z a) a b
theorem ChO.trans {Z a b c : World} (h : ChO Z a b) (k : ChO Z b c) : ChO Z a c :=
  ⟨k.os.trans h.os, k.tape.trans h.tape, k.output.trans h.output, Nat.le_trans h.size k.size, fun i hi hn => by
    have e1 := h.block i hi hn
    exact (k.block i (Nat.lt_of_lt_of_le hi h.size) (fun hh => hn (hh.eq e1))).trans e1⟩
theorem ChO.of (Z : World) {a b : World} (h : Below a.heap.size a b) : ChO Z a b := ⟨h.os, h.tape, h.output, h.size, fun i hi _ => h.block i hi⟩
theorem ChO.bel {Z a b : World} (h : ChO Z a b) (hZ : Below Z.heap.size Z a) : Below Z.heap.size Z b :=
  ⟨h.os.trans hZ.os, h.tape.trans hZ.tape, h.output.trans hZ.output, Nat.le_trans hZ.size h.size, fun i hi =>
    (h.block i (Nat.lt_of_lt_of_le hi hZ.size) (fun hh => by have := hh.1; omega)).trans (hZ.block i hi)⟩
theorem ChO.kept {Z a b : World} (h : ChO Z a b) {P : Nat} {o : Obj} (hp : a.heap[P]? = some o) (hn : ∀ cs t, o = .cells cs t (0, 0) → rowTy t → ∃ x, cs[0]? = some (.int .u64 x)) : b.heap[P]? = some o :=
  (h.block P (Array.getElem?_eq_some_iff.1 hp).1 (fun hh => by
    obtain ⟨_, ⟨cur, t, h1, h2⟩, h3⟩ := hh
    rw [hp] at h1
    injection h1 with h1
    obtain ⟨x, hx⟩ := hn _ _ h1 h2
    rw [h1] at hp
    exact h3 x ((cell_of hp 0).trans hx))).trans hp
def Mine (W : World) (b : Nat) : Prop := (∃ cur t, W.heap[b]? = some (.cells cur t (0, 0)) ∧ rowTy t) ∨ ∃ x : Int, W.cell? ⟨b, 0, none⟩ = some (.int .u64 x)
def KpM (W X : World) : Prop := W.heap.size ≤ X.heap.size ∧ ∀ b, b < W.heap.size → Mine W b → X.heap[b]? = W.heap[b]?
theorem KpM.bel {W X : World} (h : Below W.heap.size W X) : KpM W X := ⟨h.size, fun b hb _ => h.block b hb⟩
theorem KpM.at {W X : World} {P : Nat} (h : Chg (fun b => b = P) W X) {cs : Array Value} {t : TypeId} {f : Nat × Nat} (hp : W.heap[P]? = some (.cells cs t f)) (ht : ¬ rowTy t) (h0 : ∀ x, cs[0]? ≠ some (.int .u64 x)) : KpM W X := by
  refine ⟨h.size, fun b hb hm => h.block b hb (fun e => ?_)⟩
  subst e
  rcases hm with ⟨cur, t', h1, h2⟩ | ⟨x, h1⟩
  · rw [hp] at h1
    injection h1 with h1
    injection h1 with _ h1
    subst h1
    exact ht h2
  · rw [cell_of hp 0] at h1
    exact h0 x h1
theorem KU.keep {B : Nat} {lp : Option Addr} {us : List Nat} {W X : World} (h : KU B lp us W) (hs : W.heap.size ≤ X.heap.size) (hk : ∀ b, b < W.heap.size → (∃ x : Int, W.cell? ⟨b, 0, none⟩ = some (.int .u64 x)) → X.heap[b]? = W.heap[b]?) : KU B lp us X := by
  rcases h with h | ⟨g, h1, h2, h3, h4⟩
  · exact .inl h
  · cases us with
    | nil => exact .inl rfl
    | cons a us =>
      refine .inr ⟨g, h1, h2, Nat.lt_of_lt_of_le h3 hs, fun i x hx => ?_⟩
      rw [World.cell?_of_block (w := W) (hk g h3 ⟨_, h4 0 a rfl⟩)]
      exact h4 i x hx
/-- operations of one's own, their keys anywhere behind -/
def OO (Z wr : World) (v : Value) (l : List Opx) : Prop := ∃ ks : List Value, ks.length = l.length ∧ wr.ownsRow 0 28 11 v l.length (opRows l ks) ∧ (l = [] → v = .slice none 0 0) ∧ (∀ b, v.ownBlock = some b → Z.heap.size ≤ b) ∧ ∀ (i : Nat) (o : Opx) (kv : Value), l[i]? = some o → ks[i]? = some kv → ∃ kp kc, kv = .slice kp o.keys.length kc ∧ KU Z.heap.size kp o.keys wr
theorem OO.nil (Z wr : World) : OO Z wr (.slice none 0 0) [] := ⟨[], rfl, World.ownsRow_nil _ _ _ _, fun _ => rfl, fun b hb => by simp [Value.ownBlock] at hb, fun i o kv ho => by simp at ho⟩
theorem OO.keep {Z wr X : World} {v : Value} {l : List Opx} (h : OO Z wr v l) (hs : wr.heap.size ≤ X.heap.size) (hr : ∀ b, v.ownBlock = some b → X.heap[b]? = wr.heap[b]?) (hk : ∀ b, b < wr.heap.size → (∃ x : Int, wr.cell? ⟨b, 0, none⟩ = some (.int .u64 x)) → X.heap[b]? = wr.heap[b]?) : OO Z X v l := by
  obtain ⟨ks, h1, h2, h3, h4, h5⟩ := h
  refine ⟨ks, h1, row_kept h2 hr, h3, h4, fun i o kv a b => ?_⟩
  obtain ⟨kp, kc, e, h6⟩ := h5 i o kv a b
  exact ⟨kp, kc, e, h6.keep hs hk⟩
theorem opRows_head {o : Opx} {l : List Opx} {ks : List Value} (h : ks.length = (o :: l).length) : (opRows (o :: l) ks)[0]? = some (.int .u8 (o.k : Int)) := by
  cases ks with
  | nil => simp at h
  | cons a ks => simp [opRows, opC]
/-- a row's first cell -/
theorem row_first {W : World} {e : TypeId} {s n : Nat} {v x : Value} {xs : List Value} (h : W.ownsRow 0 e s v n xs) (hx : xs[0]? = some x) {b : Nat} (hb : v.ownBlock = some b) : W.cell? ⟨b, 0, none⟩ = some x := by
  have := h.cells (g := b) hb 0 x hx
  rwa [Addr.add_mid] at this
theorem OO.first {Z wr : World} {v : Value} {l : List Opx} (h : OO Z wr v l) {b : Nat} (hb : v.ownBlock = some b) : ∃ k : Int, wr.cell? ⟨b, 0, none⟩ = some (.int .u8 k) := by
  obtain ⟨ks, h1, h2, h3, h4, h5⟩ := h
  cases l with
  | nil => rw [h3 rfl] at hb; simp [Value.ownBlock] at hb
  | cons o l => exact ⟨_, row_first h2 (opRows_head h1) hb⟩
theorem OO.slice {Z wr : World} {v : Value} {l : List Opx} (h : OO Z wr v l) : ∃ p c, v = .slice p l.length c := by
  obtain ⟨ks, h1, h2, h3, h4, h5⟩ := h
  rcases h2.2 with ⟨hv, h0⟩ | ⟨g, cap, cur, hv, _⟩
  · exact ⟨none, 0, by rw [hv, h0]⟩
  · exact ⟨_, cap, hv⟩
theorem OO.blk {Z wr : World} {v : Value} {l : List Opx} (h : OO Z wr v l) {b : Nat} (hb : v.ownBlock = some b) : ∃ cur, wr.heap[b]? = some (.cells cur 28 (0, 0)) := by
  obtain ⟨ks, h1, h2, h3, h4, h5⟩ := h
  exact row_block h2 b hb
structure OS (Z wr : World) (tv pv : Value) (ts : List (List Opx)) (ps : List Int) : Prop where
  pr : wr.ownsRow 0 3 1 pv ps.length (iRow ps)
  pb : ∀ b, pv.ownBlock = some b → Z.heap.size ≤ b
  p0 : ps = [] → pv = .slice none 0 0
  t0 : ts = [] → tv = .slice none 0 0
  tb : ∀ b, tv.ownBlock = some b → Z.heap.size ≤ b
  tr : ∃ vs : List Value, vs.length = ts.length ∧ wr.ownsRow 0 75 1 tv ts.length vs ∧ (∀ (i : Nat) (l : List Opx) (v : Value), ts[i]? = some l → vs[i]? = some v → OO Z wr v l) ∧ ∀ (i j : Nat) (v v' : Value) (b : Nat), vs[i]? = some v → vs[j]? = some v' → v.ownBlock = some b → v'.ownBlock = some b → i = j
theorem OS.nil (Z wr : World) : OS Z wr (.slice none 0 0) (.slice none 0 0) [] [] := ⟨World.ownsRow_nil _ _ _ _, fun b hb => by simp [Value.ownBlock] at hb, fun _ => rfl, fun _ => rfl, fun b hb => by simp [Value.ownBlock] at hb, ⟨[], rfl, World.ownsRow_nil _ _ _ _, fun i l v h => by simp at h, fun i j v v' b h => by simp at h⟩⟩
theorem mine_row {W : World} {e : TypeId} {s n : Nat} {v : Value} {xs : List Value} (h : W.ownsRow 0 e s v n xs) (he : rowTy e) {b : Nat} (hb : v.ownBlock = some b) : b < W.heap.size ∧ Mine W b := by
  obtain ⟨cur, hc⟩ := row_block h b hb
  exact ⟨(Array.getElem?_eq_some_iff.1 hc).1, .inl ⟨cur, e, hc, he⟩⟩
theorem OS.keep {Z wr X : World} {tv pv : Value} {ts : List (List Opx)} {ps : List Int} (h : OS Z wr tv pv ts ps) (hk : KpM wr X) : OS Z X tv pv ts ps := by
  obtain ⟨vs, v1, v2, v3, v4⟩ := h.tr
  refine ⟨row_kept h.pr fun b hb => ?_, h.pb, h.p0, h.t0, h.tb, ⟨vs, v1, row_kept v2 fun b hb => ?_, fun i l v a b => ?_, v4⟩⟩
  · obtain ⟨q1, q2⟩ := mine_row h.pr (.inl rfl) hb
    exact hk.2 b q1 q2
  · obtain ⟨q1, q2⟩ := mine_row v2 (.inr (.inl rfl)) hb
    exact hk.2 b q1 q2
  · refine (v3 i l v a b).keep hk.1 (fun c hc => ?_) (fun c hc hx => hk.2 c hc (.inr hx))
    obtain ⟨cur, hcur⟩ := (v3 i l v a b).blk hc
    exact hk.2 c (Array.getElem?_eq_some_iff.1 hcur).1 (.inl ⟨cur, _, hcur, .inr (.inr rfl)⟩)
theorem OS.on {Z wr X : World} {tv pv : Value} {ts : List (List Opx)} {ps : List Int} (h : OS Z wr tv pv ts ps) (hb : Below wr.heap.size wr X) : OS Z X tv pv ts ps := h.keep (KpM.bel hb)
theorem own_row {Z W : World} {e : TypeId} {s n : Nat} {v x : Value} {xs : List Value} (h : W.ownsRow 0 e s v n xs) (he : rowTy e) {b : Nat} (hb : v.ownBlock = some b) (hZ : Z.heap.size ≤ b) (hx : xs[0]? = some x) (hn : ∀ y, x ≠ .int .u64 y) : OwnT Z W b := by
  obtain ⟨cur, hc⟩ := row_block h b hb
  refine ⟨hZ, ⟨cur, e, hc, he⟩, fun y hy => ?_⟩
  rw [row_first h hx hb] at hy
  injection hy with hy
  exact hn y hy
theorem int_head {ps : List Int} (h : ps ≠ []) : ∃ z, (iRow ps)[0]? = some (.int .i64 z) := by
  cases ps with
  | nil => exact absurd rfl h
  | cons a l => exact ⟨a, rfl⟩
/-- picks are added -/
theorem OS.addP {Z wa w2 : World} {tv pv pv' : Value} {ts : List (List Opx)} {ps l : List Int} (h : OS Z wa tv pv ts ps) (hZ : Z.heap.size ≤ wa.heap.size) (hl : l ≠ []) (hr : w2.ownsRow 0 3 1 pv' (ps.length + l.length) (iRow ps ++ iRow l)) (hg : wa.grownBy w2 pv.ownBlock) (hw : pv'.ownBlock = pv.ownBlock ∨ pv'.ownBlock = some wa.heap.size) : OS Z w2 tv pv' ts (ps ++ l) ∧ ChO Z wa w2 := by
  have hp1 : ∀ b, pv.ownBlock = some b → ∃ z, wa.cell? ⟨b, 0, none⟩ = some (.int .i64 z) ∧ OwnT Z wa b := fun b hb => by
    have hne : ps ≠ [] := fun e => by rw [h.p0 e] at hb; simp [Value.ownBlock] at hb
    obtain ⟨z, hz⟩ := int_head hne
    exact ⟨z, row_first h.pr hz hb, own_row h.pr (.inl rfl) hb (h.pb b hb) hz (fun y e => by injection e with e; cases e)⟩
  have oth : ∀ b, b < wa.heap.size → ¬ pv.ownBlock = some b → w2.heap[b]? = wa.heap[b]? := fun b hb hn => hg.block b hb (fun e => hn e.symm)
  obtain ⟨vs, v1, v2, v3, v4⟩ := h.tr
  refine ⟨⟨by simpa [iRow] using hr, fun b hb => ?_, fun e => by simp at e; exact absurd e.2 hl, h.t0, h.tb, ⟨vs, v1, row_kept v2 fun b hb => oth b (row_lt v2 b hb) (rows_apart v2 h.pr (by decide) b hb), fun i l v a b => (v3 i l v a b).keep hg.size (fun c hc => ?_) (fun c hc hx => oth c hc (fun e => ?_)), v4⟩⟩, ⟨hg.os, hg.tape, hg.output, hg.size, fun i hi hn => oth i hi (fun e => hn (hp1 i e).choose_spec.2)⟩⟩
  · rcases hw with e | e
    · rw [e] at hb; exact h.pb b hb
    · rw [e] at hb; injection hb with hb; omega
  · obtain ⟨ks, k1, k2, k3, k4, k5⟩ := v3 i l v a b
    exact oth c (row_lt k2 c hc) (rows_apart k2 h.pr (by decide) c hc)
  · obtain ⟨z, hz, _⟩ := hp1 c e
    obtain ⟨x, hx⟩ := hx
    rw [hz] at hx
    injection hx with hx
    injection hx with hx
    cases hx
theorem vs_head {Z wr : World} {ts : List (List Opx)} {vs : List Value} (v1 : vs.length = ts.length) (v3 : ∀ (i : Nat) (l : List Opx) (v : Value), ts[i]? = some l → vs[i]? = some v → OO Z wr v l) (hne : ts ≠ []) : ∃ p n c, vs[0]? = some (.slice p n c) := by
  cases ts with
  | nil => exact absurd rfl hne
  | cons a ts =>
    cases vs with
    | nil => simp at v1
    | cons v vs =>
      obtain ⟨p, c, e⟩ := (v3 0 a v rfl rfl).slice
      exact ⟨p, a.length, c, by simp [e]⟩
/-- a thread is added -/
theorem OS.addT {Z wa w2 : World} {tv tv' pv : Value} {ts : List (List Opx)} {ps : List Int} {vs : List Value} (h : OS Z wa tv pv ts ps) (hZ : Z.heap.size ≤ wa.heap.size)
    (v1 : vs.length = ts.length) (v2 : wa.ownsRow 0 75 1 tv ts.length vs) (v3 : ∀ (i : Nat) (l : List Opx) (v : Value), ts[i]? = some l → vs[i]? = some v → OO Z wa v l) (v4 : ∀ (i j : Nat) (v v' : Value) (b : Nat), vs[i]? = some v → vs[j]? = some v' → v.ownBlock = some b → v'.ownBlock = some b → i = j)
    (hr : w2.ownsRow 0 75 1 tv' (ts.length + 1) (vs ++ [.slice none 0 0])) (hg : wa.grownBy w2 tv.ownBlock) (hw : tv'.ownBlock = tv.ownBlock ∨ tv'.ownBlock = some wa.heap.size) : OS Z w2 tv' pv (ts ++ [[]]) ps ∧ ChO Z wa w2 := by
  have hp1 : ∀ b, tv.ownBlock = some b → (∃ p n c, wa.cell? ⟨b, 0, none⟩ = some (.slice p n c)) ∧ OwnT Z wa b := fun b hb => by
    have hne : ts ≠ [] := fun e => by rw [h.t0 e] at hb; simp [Value.ownBlock] at hb
    obtain ⟨p, n, c, hz⟩ := vs_head v1 v3 hne
    exact ⟨⟨p, n, c, row_first v2 hz hb⟩, own_row v2 (.inr (.inl rfl)) hb (h.tb b hb) hz (fun y e => by cases e)⟩
  have oth : ∀ b, b < wa.heap.size → ¬ tv.ownBlock = some b → w2.heap[b]? = wa.heap[b]? := fun b hb hn => hg.block b hb (fun e => hn e.symm)
  have ky : ∀ c, c < wa.heap.size → (∃ x : Int, wa.cell? ⟨c, 0, none⟩ = some (.int .u64 x)) → w2.heap[c]? = wa.heap[c]? := fun c hc hx => oth c hc (fun e => by
    obtain ⟨⟨p, n, cc, hz⟩, _⟩ := hp1 c e
    obtain ⟨x, hx⟩ := hx
    rw [hz] at hx
    cases hx)
  refine ⟨⟨row_kept h.pr fun b hb => oth b (row_lt h.pr b hb) (rows_apart h.pr v2 (by decide) b hb), h.pb, h.p0, fun e => by simp at e, fun b hb => ?_, ⟨vs ++ [.slice none 0 0], by simp [v1], by rw [List.length_append]; exact hr, fun i l v a b => ?_, fun i j v v' b a1 a2 a3 a4 => ?_⟩⟩, ⟨hg.os, hg.tape, hg.output, hg.size, fun i hi hn => oth i hi (fun e => hn (hp1 i e).2)⟩⟩
  · rcases hw with e | e
    · rw [e] at hb; exact h.tb b hb
    · rw [e] at hb; injection hb with hb; omega
  · by_cases hlt : i < ts.length
    · rw [List.getElem?_append_left hlt] at a
      rw [List.getElem?_append_left (by omega)] at b
      refine (v3 i l v a b).keep hg.size (fun c hc => ?_) ky
      obtain ⟨ks, k1, k2, k3, k4, k5⟩ := v3 i l v a b
      exact oth c (row_lt k2 c hc) (rows_apart k2 v2 (by decide) c hc)
    · have hi2 : i = ts.length := by
        have := (List.getElem?_eq_some_iff.1 a).1
        simp at this
        omega
      subst hi2
      rw [← v1] at b
      simp at a b
      subst a b
      exact OO.nil _ _
  · have side : ∀ (i : Nat) (v : Value), (vs ++ [Value.slice none 0 0])[i]? = some v → v.ownBlock = some b → vs[i]? = some v := fun i v e1 e2 => by
      by_cases hlt : i < vs.length
      · rwa [List.getElem?_append_left hlt] at e1
      · have hi2 : i = vs.length := by
          have := (List.getElem?_eq_some_iff.1 e1).1
          simp at this
          omega
        subst hi2
        simp at e1
        subst e1
        simp [Value.ownBlock] at e2
    exact v4 i j v v' b (side i v a1 a3) (side j v' a2 a4) a3 a4
/-- the last thread's row -/
theorem OS.last {Z wr : World} {tv pv : Value} {ts : List (List Opx)} {l : List Opx} {ps : List Int} (h : OS Z wr tv pv (ts ++ [l]) ps) : ∃ (gT cap : Nat) (v : Value) (ks : List Value), tv = .slice (some ⟨gT, 0, none⟩) (ts.length + 1) cap ∧ wr.cell? ⟨gT, ts.length, none⟩ = some v ∧ wr.frozen? ⟨gT, ts.length, none⟩ = false ∧ gT < wr.heap.size ∧ Mine wr gT ∧ ks.length = l.length ∧ wr.ownsRow 0 28 11 v l.length (opRows l ks) ∧ (∃ p c, v = .slice p l.length c) := by
  obtain ⟨vs, v1, v2, v3, v4⟩ := h.tr
  have hn : (ts ++ [l]).length = ts.length + 1 := by simp
  rw [hn] at v1 v2
  rcases v2.2 with ⟨_, e⟩ | ⟨gT, cap, cur, rfl, _⟩
  · omega
  · obtain ⟨v, hv⟩ : ∃ v, vs[ts.length]? = some v := ⟨_, List.getElem?_eq_getElem (by omega)⟩
    have hO := v3 ts.length l v (by simp) hv
    obtain ⟨p, c, hs⟩ := hO.slice
    obtain ⟨ks, k1, k2, k3, k4, k5⟩ := hO
    obtain ⟨q1, q2⟩ := mine_row v2 (.inr (.inl rfl)) (b := gT) rfl
    exact ⟨gT, cap, v, ks, rfl, by rw [World.ownsRow.cellAt v2 ts.length (by omega)]; exact hv, World.ownsRow.frozenAt v2 _, q1, q2, k1, k2, p, c, hs⟩
/-- an operation is added to the last thread -/
theorem OS.addO {Z wa w2 : World} {gT cap : Nat} {v v' kv pv : Value} {ts : List (List Opx)} {l : List Opx} {o : Opx} {ps : List Int} {ks : List Value} (h : OS Z wa (.slice (some ⟨gT, 0, none⟩) (ts.length + 1) cap) pv (ts ++ [l]) ps) (hZ : Z.heap.size ≤ wa.heap.size)
    (hv : wa.cell? ⟨gT, ts.length, none⟩ = some v) (hks : ks.length = l.length) (hrow : wa.ownsRow 0 28 11 v l.length (opRows l ks)) (hkv : ∃ kp kc, kv = .slice kp o.keys.length kc ∧ KU Z.heap.size kp o.keys wa)
    (hr : w2.ownsRow 0 28 11 v' (l.length + 1) (opRows l ks ++ opC o kv)) (hg : wa.grownBy w2 v.ownBlock) (hw : v'.ownBlock = v.ownBlock ∨ v'.ownBlock = some wa.heap.size) :
    OS Z (w2.setCell ⟨gT, ts.length, none⟩ v') (.slice (some ⟨gT, 0, none⟩) (ts.length + 1) cap) pv (ts ++ [l ++ [o]]) ps ∧ ChO Z wa (w2.setCell ⟨gT, ts.length, none⟩ v') ∧ w2.cell? ⟨gT, ts.length, none⟩ = some v ∧ w2.frozen? ⟨gT, ts.length, none⟩ = false := by
  obtain ⟨vs, v1, v2, v3, v4⟩ := h.tr
  have hn : ∀ l : List Opx, (ts ++ [l]).length = ts.length + 1 := fun l => by simp
  rw [hn] at v1 v2
  have hvs : vs[ts.length]? = some v := by
    have := World.ownsRow.cellAt v2 ts.length (by omega)
    rw [hv] at this
    exact this.symm
  have hO := v3 ts.length l v (by simp) hvs
  have hgT := row_block v2 gT rfl
  obtain ⟨curT, hcT⟩ := hgT
  have ltT := (Array.getElem?_eq_some_iff.1 hcT).1
  obtain ⟨pT, nT, cT, hzT⟩ := vs_head (ts := ts ++ [l]) (by simpa using v1) v3 (by simp)
  have fT : wa.cell? ⟨gT, 0, none⟩ = some (.slice pT nT cT) := row_first v2 hzT rfl
  have vb : ∀ b, v.ownBlock = some b → (∃ k : Int, wa.cell? ⟨b, 0, none⟩ = some (.int .u8 k)) ∧ (∃ cur, wa.heap[b]? = some (.cells cur 28 (0, 0))) ∧ Z.heap.size ≤ b := fun b hb => by
    obtain ⟨k, hk⟩ := hO.first hb
    obtain ⟨cur, hc⟩ := hO.blk hb
    obtain ⟨_, _, _, _, h4, _⟩ := hO
    exact ⟨⟨k, hk⟩, ⟨cur, hc⟩, h4 b hb⟩
  have neT : v.ownBlock ≠ some gT := fun e => by
    obtain ⟨k, hk⟩ := (vb gT e).1
    rw [fT] at hk
    cases hk
  have oth : ∀ b, b < wa.heap.size → v.ownBlock ≠ some b → w2.heap[b]? = wa.heap[b]? := fun b hb hne => hg.block b hb (fun e => hne e.symm)
  have hT2 := oth gT ltT neT
  have oth2 : ∀ b, b < wa.heap.size → v.ownBlock ≠ some b → b ≠ gT → (w2.setCell ⟨gT, ts.length, none⟩ v').heap[b]? = wa.heap[b]? := fun b hb hne hne2 => (Below.heap_setCell w2 ⟨gT, ts.length, none⟩ v' b hne2).trans (oth b hb hne)
  have szS : (w2.setCell ⟨gT, ts.length, none⟩ v').heap.size = w2.heap.size := by simp [World.setCell]
  have v2w : w2.ownsRow 0 75 1 (.slice (some ⟨gT, 0, none⟩) (ts.length + 1) cap) (ts.length + 1) vs := row_kept v2 fun b hb => by
    injection hb with hb
    subst hb
    exact hT2
  obtain ⟨st1, st2⟩ := World.ownsRow.stored v2w ts.length v'
  have ky : ∀ c, c < wa.heap.size → (∃ x : Int, wa.cell? ⟨c, 0, none⟩ = some (.int .u64 x)) → (w2.setCell ⟨gT, ts.length, none⟩ v').heap[c]? = wa.heap[c]? := fun c hc hx => by
    obtain ⟨x, hx⟩ := hx
    refine oth2 c hc (fun e => ?_) (fun e => ?_)
    · obtain ⟨k, hk⟩ := (vb c e).1
      rw [hx] at hk
      injection hk with hk
      injection hk with hk
      cases hk
    · subst e
      rw [fT] at hx
      cases hx
  have szA : wa.heap.size ≤ (w2.setCell ⟨gT, ts.length, none⟩ v').heap.size := by rw [szS]; exact hg.size
  refine ⟨⟨row_kept h.pr fun b hb => ?_, h.pb, h.p0, fun e => by simp at e, h.tb, ⟨vs.set ts.length v', by rw [List.length_set, v1, hn], by rw [hn]; simpa using st1, fun i l' u a b => ?_, fun i j u u' b a1 a2 a3 a4 => ?_⟩⟩, ⟨hg.os, hg.tape, hg.output, szA, fun i hi hno => ?_⟩, by rw [World.cell?_of_block (w := wa) hT2]; exact hv, World.ownsRow.frozenAt v2w _⟩
  · refine oth2 b (row_lt h.pr b hb) (fun e => ?_) (fun e => ?_)
    · obtain ⟨cur, hc⟩ := (vb b e).2.1
      exact block_apart h.pr hc (by decide) hb
    · subst e
      exact block_apart h.pr hcT (by decide) hb
  · by_cases hi : i = ts.length
    · subst hi
      rw [List.getElem?_set_self (by omega)] at b
      injection b with b
      subst b
      have hl' : l' = l ++ [o] := by simpa using a.symm
      subst hl'
      obtain ⟨kz, k1, k2, k3, k4, k5⟩ := hO
      have e0 : opRows l kz = opRows l ks := by
        have h1 := k2.2
        have h2 := hrow.2
        rcases h1 with ⟨e1, e2⟩ | ⟨g1, c1, u1, e1, _, b1, _, _, _, t1⟩
        · rw [List.length_eq_zero_iff.1 e2]; simp [opRows]
        · rcases h2 with ⟨e3, _⟩ | ⟨g2, c2, u2, e3, _, b2, _, _, _, t2⟩
          · rw [e1] at e3; cases e3
          · rw [e1] at e3
            injection e3 with e3
            injection e3 with e3
            injection e3 with e3
            subst e3
            rw [b1] at b2
            injection b2 with b2
            injection b2 with b2
            subst b2
            exact t1.symm.trans t2
      refine ⟨kz ++ [kv], by simp [k1], ?_, fun e => by simp at e, fun b hb => ?_, fun i x kx hx hkx => ?_⟩
      · rw [opRows_snoc l _ o kv k1, e0, List.length_append]
        exact row_kept hr fun b hb => Below.heap_setCell w2 ⟨gT, ts.length, none⟩ v' b (fun e => by
          have e : b = gT := e
          subst e
          rcases hw with e | e
          · rw [hb] at e; exact neT e.symm
          · rw [hb] at e; injection e with e; omega)
      · rcases hw with e | e
        · rw [e] at hb; exact (vb b hb).2.2
        · rw [e] at hb; injection hb with hb; omega
      · by_cases hi : i < l.length
        · rw [List.getElem?_append_left hi] at hx
          rw [List.getElem?_append_left (by omega)] at hkx
          obtain ⟨kp, kc, e, hK⟩ := k5 i x kx hx hkx
          exact ⟨kp, kc, e, hK.keep szA ky⟩
        · have hi2 : i = l.length := by
            have := (List.getElem?_eq_some_iff.1 hx).1
            simp at this
            omega
          subst hi2
          rw [← k1] at hkx
          simp at hx hkx
          subst hx hkx
          obtain ⟨kp, kc, e, hK⟩ := hkv
          exact ⟨kp, kc, e, hK.keep szA ky⟩
    · rw [List.getElem?_set_ne (Ne.symm hi)] at b
      have hi2 := (List.getElem?_eq_some_iff.1 a).1
      rw [hn] at hi2
      rw [List.getElem?_append_left (by omega)] at a
      have hU := v3 i l' u (by rw [List.getElem?_append_left (by omega)]; exact a) b
      refine hU.keep szA (fun c hc => ?_) ky
      obtain ⟨cur, hcu⟩ := hU.blk hc
      refine oth2 c (Array.getElem?_eq_some_iff.1 hcu).1 (fun e => hi (v4 i ts.length u v c b hvs hc e)) (fun e => ?_)
      subst e
      rw [hcT] at hcu
      injection hcu with hcu
      injection hcu with _ hcu
      exact absurd hcu (by decide)
  · have side : ∀ (i : Nat) (u : Value), (vs.set ts.length v')[i]? = some u → u.ownBlock = some b → (i ≠ ts.length ∧ vs[i]? = some u ∧ b < wa.heap.size) ∨ (i = ts.length ∧ u = v') := fun i u e1 e2 => by
      by_cases hi : i = ts.length
      · subst hi
        rw [List.getElem?_set_self (by omega)] at e1
        injection e1 with e1
        exact .inr ⟨rfl, e1.symm⟩
      · rw [List.getElem?_set_ne (Ne.symm hi)] at e1
        have hlt := (List.getElem?_eq_some_iff.1 e1).1
        obtain ⟨l', hl'⟩ : ∃ l', (ts ++ [l])[i]? = some l' := ⟨_, List.getElem?_eq_getElem (by rw [hn]; omega)⟩
        obtain ⟨cur, hcu⟩ := (v3 i l' u hl' e1).blk e2
        exact .inl ⟨hi, e1, (Array.getElem?_eq_some_iff.1 hcu).1⟩
    rcases side i u a1 a3 with ⟨i1, i2, i3⟩ | ⟨i1, i2⟩ <;> rcases side j u' a2 a4 with ⟨j1, j2, j3⟩ | ⟨j1, j2⟩
    · exact v4 i j u u' b i2 j2 a3 a4
    · exfalso
      subst j2
      rcases hw with e | e
      · rw [a4] at e
        exact i1 (v4 i ts.length u v b i2 hvs a3 e.symm)
      · rw [a4] at e
        injection e with e
        omega
    · exfalso
      subst i2
      rcases hw with e | e
      · rw [a3] at e
        exact j1 (v4 j ts.length u' v b j2 hvs a4 e.symm)
      · rw [a3] at e
        injection e with e
        omega
    · rw [i1, j1]
  · refine oth2 i hi (fun e => hno ?_) (fun e => hno ?_)
    · obtain ⟨⟨k, hk⟩, ⟨cur, hc⟩, hz⟩ := vb i e
      exact ⟨hz, ⟨cur, _, hc, .inr (.inr rfl)⟩, fun x hx => by
        rw [hk] at hx
        injection hx with hx
        injection hx with hx
        cases hx⟩
    · subst e
      exact own_row v2 (.inr (.inl rfl)) rfl (h.tb i rfl) hzT (fun y e => by cases e)
/-- what it reads as -/
theorem OO.ord {Z wr : World} {v : Value} {l : List Opx} (h : OO Z wr v l) : ∃ lp lc, v = .slice lp l.length lc ∧ ORd wr lp l := by
  obtain ⟨ks, h1, h2, h3, h4, h5⟩ := h
  have h2' := h2
  rcases h2.2 with ⟨hv, h0⟩ | ⟨g, cap, cur, hv, _⟩
  · exact ⟨none, 0, by rw [hv, h0], .inl (List.eq_nil_of_length_eq_zero h0)⟩
  · refine ⟨_, cap, hv, .inr ⟨g, 0, rfl, row_lt h2 g (by rw [hv]; rfl), fun i o ho => ?_⟩⟩
    have hi := (List.getElem?_eq_some_iff.1 ho).1
    obtain ⟨kv, hkv⟩ : ∃ kv, ks[i]? = some kv := ⟨_, List.getElem?_eq_getElem (by omega)⟩
    obtain ⟨kp, kc, rfl, hK⟩ := h5 i o kv ho hkv
    rw [hv] at h2'
    have hcell : ∀ q, q < 11 → wr.cell? ⟨g, 0 + i * 11 + q, none⟩ = (opC o (.slice kp o.keys.length kc))[q]? := fun q hq => by
      rw [Nat.zero_add, World.ownsRow.cellAt h2' (i * 11 + q) (by omega)]
      exact opRows_at l ks i q o _ ho hkv hq
    exact ⟨kp, kc, hK.krd, hcell 0 (by decide), hcell 1 (by decide), hcell 2 (by decide), hcell 3 (by decide), hcell 4 (by decide), hcell 5 (by decide), hcell 6 (by decide), hcell 7 (by decide), hcell 8 (by decide), hcell 9 (by decide), hcell 10 (by decide)⟩
theorem OS.reads {Z wr : World} {tv pv : Value} {ts : List (List Opx)} {ps : List Int} (h : OS Z wr tv pv ts ps) : ∃ tp tc pp pc, tv = .slice tp ts.length tc ∧ pv = .slice pp ps.length pc ∧ TRd wr tp ts ∧ IRd wr pp ps ∧ ps.length ≤ pc := by
  obtain ⟨vs, v1, v2, v3, v4⟩ := h.tr
  have a : ∃ tp tc, tv = .slice tp ts.length tc ∧ TRd wr tp ts := by
    have v2' := v2
    rcases v2.2 with ⟨hv, h0⟩ | ⟨g, cap, cur, hv, _⟩
    · exact ⟨none, 0, by rw [hv, h0], .inl (List.eq_nil_of_length_eq_zero h0)⟩
    · refine ⟨_, cap, hv, .inr ⟨g, 0, rfl, row_lt v2 g (by rw [hv]; rfl), fun i l hl => ?_⟩⟩
      have hi := (List.getElem?_eq_some_iff.1 hl).1
      obtain ⟨v, hvv⟩ : ∃ v, vs[i]? = some v := ⟨_, List.getElem?_eq_getElem (by omega)⟩
      obtain ⟨lp, lc, rfl, hO⟩ := (v3 i l v hl hvv).ord
      rw [hv] at v2'
      refine ⟨lp, lc, hO, ?_⟩
      rw [Nat.zero_add, World.ownsRow.cellAt v2' i (by omega)]
      exact hvv
  have b : ∃ pp pc, pv = .slice pp ps.length pc ∧ IRd wr pp ps ∧ ps.length ≤ pc := by
    have p2 := h.pr
    rcases h.pr.2 with ⟨hv, h0⟩ | ⟨g, cap, cur, hv, _, _, hle, _⟩
    · exact ⟨none, 0, by rw [hv, h0], .inl (List.eq_nil_of_length_eq_zero h0), by omega⟩
    · refine ⟨_, cap, hv, .inr ⟨g, 0, rfl, row_lt h.pr g (by rw [hv]; rfl), fun i x hx => ?_⟩, hle⟩
      rw [hv] at p2
      have hi := (List.getElem?_eq_some_iff.1 hx).1
      rw [Nat.zero_add, World.ownsRow.cellAt p2 i (by omega), iRow, List.getElem?_map, hx]
      rfl
  obtain ⟨tp, tc, e1, h1⟩ := a
  obtain ⟨pp, pc, e2, h2, h3⟩ := b
  exact ⟨tp, tc, pp, pc, e1, e2, h1, h2, h3⟩
theorem app_rowI (W : World) (pv sv : Value) (ps l : List Int) (hp : W.ownsRow 0 3 1 pv ps.length (iRow ps)) (hs : W.ownsRow 0 3 1 sv l.length (iRow l)) (h1 : ps.length ≤ 10000000) (h2 : l.length ≤ 20) (h0 : l ≠ []) (ty : TypeId) : ∃ v' W', (Builtin.append_ #[44, 44] ty #[pv, sv]).run Tryz.prog W = .ok v' W' ∧ W'.ownsRow 0 3 1 v' (ps.length + l.length) (iRow ps ++ iRow l) ∧ W.grownBy W' pv.ownBlock ∧ (v'.ownBlock = pv.ownBlock ∨ v'.ownBlock = some W.heap.size) := by
  obtain ⟨i0, hi, hz0, hz1, hz2⟩ := info_parts infoInt
  rcases hs.2 with ⟨_, e⟩ | ⟨g, cap, cur, rfl, _⟩
  · exact absurd (List.eq_nil_of_length_eq_zero e) h0
  · obtain ⟨v', w', hr, k2, k3, k4, k5⟩ := run_append_own_at (P := Tryz.prog) W 0 44 ty 3 i0 (.int .i64 0) 1 8 Tryz.underlying44 hi hz0 hz1 hz2 rfl (by decide) pv ps.length (iRow ps) hp ⟨g, 0, none⟩ l.length cap (iRow l) (by simp [iRow]) (fun j u hj => hs.cells (g := g) rfl j u hj) (by intro u hu; unfold iRow at hu; obtain ⟨x, _, rfl⟩ := List.mem_map.1 hu; rfl) (by unfold maxLen; omega) (by omega) (Nat.zero_le _)
    exact ⟨v', w', hr, k2, k3, k5⟩
theorem app_rowT (W : World) (tv : Value) (b : Nat) (ts : List (List Opx)) (vs : List Value) (hp : W.ownsRow 0 75 1 tv ts.length vs) (h1 : ts.length ≤ 10000000) (hb : W.heap[b]? = some (.cells #[.slice none 0 0] 75 (0, 0))) (ty : TypeId) : ∃ v' W', (Builtin.append_ #[43, 43] ty #[tv, .slice (some ⟨b, 0, none⟩) 1 1]).run Tryz.prog W = .ok v' W' ∧ W'.ownsRow 0 75 1 v' (ts.length + 1) (vs ++ [.slice none 0 0]) ∧ W.grownBy W' tv.ownBlock ∧ (v'.ownBlock = tv.ownBlock ∨ v'.ownBlock = some W.heap.size) := by
  obtain ⟨i0, hi, hz0, hz1, hz2⟩ := info_parts infoOps
  obtain ⟨v', w', hr, k2, k3, k4, k5⟩ := run_append_own_at (P := Tryz.prog) W 0 43 ty 75 i0 (.slice none 0 0) 1 24 Tryz.underlying43 hi hz0 hz1 hz2 rfl (by decide) tv ts.length vs hp ⟨b, 0, none⟩ 1 1 [.slice none 0 0] rfl (fun j u hj => by
    have hlt := (List.getElem?_eq_some_iff.1 hj).1
    have hj0 : j = 0 := by simp at hlt; exact hlt
    subst hj0
    rw [Addr.add_mid, cell_of hb]
    simpa using hj) (by intro u hu; simp at hu; subst hu; rfl) (by unfold maxLen; omega) (by omega) (Nat.zero_le _)
  exact ⟨v', w', hr, k2, k3, k5⟩
theorem app_rowO (W : World) (v : Value) (b : Nat) (l : List Opx) (ks : List Value) (o : Opx) (kv : Value) (hp : W.ownsRow 0 28 11 v l.length (opRows l ks)) (h1 : l.length ≤ 10000000) (hb : W.heap[b]? = some (.cells (opR o.k o.key o.val o.old o.hnd o.set o.rt o.ri kv o.lo o.hi) 28 (0, 0))) (hk : kv.oneCell' = true) (ty : TypeId) : ∃ v' W', (Builtin.append_ #[75, 75] ty #[v, .slice (some ⟨b, 0, none⟩) 1 1]).run Tryz.prog W = .ok v' W' ∧ W'.ownsRow 0 28 11 v' (l.length + 1) (opRows l ks ++ opC o kv) ∧ W.grownBy W' v.ownBlock ∧ (v'.ownBlock = v.ownBlock ∨ v'.ownBlock = some W.heap.size) := by
  obtain ⟨i0, hi, hz0, hz1, hz2⟩ := info_parts infoOp
  obtain ⟨v', w', hr, k2, k3, k4, k5⟩ := run_append_own_at (P := Tryz.prog) W 0 75 ty 28 i0 _ 11 104 Tryz.underlying75 hi hz0 hz1 hz2 rfl (by decide) v l.length (opRows l ks) hp ⟨b, 0, none⟩ 1 1 (opC o kv) rfl (fun j u hj => by
    rw [Addr.add_mid, cell_of hb]
    simpa [opC] using hj) (by intro u hu; simp [opC] at hu; rcases hu with rfl | rfl | rfl | rfl | rfl | rfl | rfl | rfl | rfl | rfl | rfl <;> first | rfl | exact hk) (by unfold maxLen; omega) (by omega) (Nat.zero_le _)
  exact ⟨v', w', hr, k2, k3, k5⟩
end Go.Proofs.YtmmaniolaljjlaaGreatDoor
/- What has been read of a script's text is right, and not longer than the text: what is pure. -/
namespace Go.Proofs.YtmmaniolaljjlaaGreatDoor
open Go.RowKit Go.Shelf
set_option linter.unusedVariables false

structure GoodR (x : Rdg) : Prop where
  ce : isI x.ce
  sl : isI x.sl
  stp : isU x.stp
  mu : isI x.mu
  cfg : cfgE x.ce x.sl x.stp x.mu = 0
  op : ∀ l ∈ x.ts, ∀ o ∈ l, rightO o
  pk : ∀ z ∈ x.ps, isI z
def GoodS (s : Option Rdg) : Prop := ∀ x, s = some x → GoodR x
theorem goes_good {s : Option Rdg} {line : List UInt8} {x : Rdg} (h : Goes1 s line x) (hs : GoodS s) : GoodR x := by
  cases h with
  | cfg ce sl stp mu a b c d e => exact ⟨a, b, c, d, e, fun l hl => by simp at hl, fun z hz => by simp at hz⟩
  | thr ce sl stp mu ts =>
    have g := hs _ rfl
    refine ⟨g.ce, g.sl, g.stp, g.mu, g.cfg, fun l hl o ho => ?_, g.pk⟩
    rcases List.mem_append.1 hl with hl | hl
    · exact g.op l hl o ho
    · simp at hl; subst hl; simp at ho
  | op ce sl stp mu ts l o hr =>
    have g := hs _ rfl
    refine ⟨g.ce, g.sl, g.stp, g.mu, g.cfg, fun l' hl o' ho => ?_, g.pk⟩
    rcases List.mem_append.1 hl with hl | hl
    · exact g.op l' (by simp [hl]) o' ho
    · simp at hl
      subst hl
      rcases List.mem_append.1 ho with ho | ho
      · exact g.op l (by simp) o' ho
      · simp at ho; subst ho; exact hr
  | pk ce sl stp mu ts ps l a b c d =>
    have g := hs _ rfl
    refine ⟨g.ce, g.sl, g.stp, g.mu, g.cfg, g.op, fun z hz => ?_⟩
    rcases List.mem_append.1 hz with hz | hz
    · exact g.pk z hz
    · exact d z hz
theorem rd_good {s z : Option Rdg} {ls : List (List UInt8)} (h : RdAll s ls z) (hs : GoodS s) : GoodS z := by
  induction h with
  | nil s => exact hs
  | cons s line x ls z hg hr ih => exact ih (fun y e => by injection e with e; subst e; exact goes_good hg hs)
theorem rd_good0 {x : Rdg} {ls : List (List UInt8)} (h : RdAll none ls (some x)) : GoodR x := rd_good h (fun x e => by cases e) x rfl
def msr (x : Rdg) : Nat := x.ts.length + (x.ts.map List.length).sum + x.ps.length
def msS : Option Rdg → Nat
  | none => 0
  | some x => msr x
theorem pkT_long (l : List Int) : l.length ≤ (pkT l).length := by
  have h := (split_len (pkT l)).1
  rw [pkT_split] at h
  simp [pkL] at h
  exact h
theorem goes_msr {s : Option Rdg} {line : List UInt8} {x : Rdg} (h : Goes1 s line x) : msr x ≤ msS s + line.length + 1 := by
  cases h with
  | cfg ce sl stp mu a b c d e => simp [msr]
  | thr ce sl stp mu ts => simp [msr, msS]; omega
  | op ce sl stp mu ts l o hr => simp [msr, msS]; omega
  | pk ce sl stp mu ts ps l a b c d =>
    have := pkT_long l
    simp [msr, msS]
    omega
theorem rd_msr {s z : Option Rdg} {ls : List (List UInt8)} (h : RdAll s ls z) : msS z ≤ msS s + (joinL ls).length := by
  induction h with
  | nil s => omega
  | cons s line x ls z hg hr ih =>
    have h1 := goes_msr hg
    have h2 : msS (some x) = msr x := rfl
    rw [joinL_cons]
    simp
    omega
theorem sum_mem {l : List Opx} {ts : List (List Opx)} (h : l ∈ ts) : l.length ≤ (ts.map List.length).sum := by
  induction ts with
  | nil => simp at h
  | cons a ts ih =>
    simp
    rcases List.mem_cons.1 h with rfl | h
    · omega
    · have := ih h
      omega
theorem sok_of {x : Rdg} (g : GoodR x) (h : msr x ≤ 10000000) : SOk x.ts x.ps := by
  unfold msr at h
  refine ⟨by omega, by omega, fun l hl => ?_, fun l hl o ho => ?_, g.pk⟩
  · have := sum_mem hl
    omega
  · have hr := g.op l hl o ho
    have hp := right_parts hr
    refine ⟨hr.1, ?_⟩
    cases hk : kysK o.k with
    | true => have := hp.kys hk; omega
    | false => rw [hp.nokys hk]; simp
theorem rt_of {x : Rdg} (g : GoodR x) : rtS x.ce x.sl x.stp x.mu x.ts x.ps = if longT x.ts x.ps then 6 else 0 := by
  by_cases h : longT x.ts x.ps
  · rw [if_pos h, rtS_long g.cfg (.inl h)]
  · rw [if_neg h]
    refine rtS_ok g.cfg (fun e => ?_) (fun e => ?_) (fun e => ?_)
    · rcases e with e | ⟨l, hl, o, ho, e1, e2⟩
      · exact h e
      · have := (right_parts (g.op l hl o ho)).kys (by unfold kysK; simp [e1])
        omega
    · obtain ⟨l, hl, o, ho, e⟩ := e
      have := (g.op l hl o ho).2
      exact absurd (e.symm.trans this) (by decide)
    · obtain ⟨l, hl, o, ho, e⟩ := e
      have := (g.op l hl o ho).2
      exact absurd (e.symm.trans this) (by decide)
end Go.Proofs.YtmmaniolaljjlaaGreatDoor
/- A handle that is read, by the document: a text that begins with '@'. (mkSdh.py) -/
namespace Go.Proofs.YtmmaniolaljjlaaGreatDoor
open Go.RowKit Go.Shelf
set_option linter.unusedVariables false

theorem cut_l (t : List UInt8) (f : Nat) (h : f ≤ t.length) (w : World) : (Instr.slice 9 (.string (mkS t)) (some (.int .i64 (f : Int))) none none).run Tryz.prog w = .ok (.string (mkS (t.drop f))) w := by
  have hs := mkS_size t
  rw [run_slice_string_l w 9 (mkS t) Tryz.underlying9 .i64 (f : Int) (by omega) (by omega)]
  rw [hs, show ((f : Int)).toNat = f by omega, mkS_extract, List.take_of_length_le (by simp)]
theorem dot_cut {r : List UInt8} {n : Nat} (h1 : 1 ≤ n) (h : (64 :: r)[n]? = some 46) : r = r.take (n - 1) ++ 46 :: r.drop n := by
  obtain ⟨m, rfl⟩ : ∃ m, n = m + 1 := ⟨n - 1, by omega⟩
  rw [List.getElem?_cons_succ] at h
  obtain ⟨hm, e⟩ := List.getElem?_eq_some_iff.1 h
  rw [Nat.add_sub_cancel, ← e, ← List.drop_eq_getElem_cons hm, List.take_append_drop]
theorem dot_more {r : List UInt8} {n : Nat} (h1 : 1 ≤ n) (hl : n < (64 :: r).length) (hb : noB 46 (r.take (n - 1))) (h : ¬ (64 :: r)[n]? = some 46) : noB 46 (r.take (n + 1 - 1)) := by
  obtain ⟨m, rfl⟩ : ∃ m, n = m + 1 := ⟨n - 1, by omega⟩
  rw [List.getElem?_cons_succ] at h
  have hm : m < r.length := by simp at hl; omega
  rw [Nat.add_sub_cancel] at hb ⊢
  rw [List.take_add_one, List.getElem?_eq_getElem hm] at *
  intro x hx
  rcases List.mem_append.1 hx with hx | hx
  · exact hb x hx
  · simp at hx
    intro e
    exact h (by rw [← hx, e])
set_option maxRecDepth 100000 in
set_option maxHeartbeats 4000000 in
theorem ref_at (k : Nat) (r : List UInt8) (hf : (64 :: r).length ≤ 200000000) (W : World) (T : Tb W) :
    Calls Tryz.prog 33 #[.agg (opR k 0 0 0 0 false 0 0 (.slice none 0 0) 0 0), .string (mkS (64 :: r))] W (RefQ W k (64 :: r)) := by
  obtain ⟨w2, hw2⟩ : ∃ w2, w2 = (W.alloc (.cells (opR k 0 0 0 0 false 0 0 (.slice none 0 0) 0 0) 28)).alloc (.cells (opR 0 0 0 0 0 false 0 0 (.slice none 0 0) 0 0) 28) := ⟨_, rfl⟩
  obtain ⟨P, hP⟩ : ∃ P, P = W.heap.size := ⟨_, rfl⟩
  obtain ⟨R, hR⟩ : ∃ R, R = W.heap.size + 1 := ⟨_, rfl⟩
  have hS2 : RF W P R (opR k 0 0 0 0 false 0 0 (.slice none 0 0) 0 0) w2 := by
    rw [hw2, hP, hR]
    refine ⟨?_, ?_, (below_alloc _ _).trans ((below_alloc _ _).mono (by simp)), Nat.le_refl _, by omega, by omega⟩
    · rw [Below.heap_alloc _ _ _ (by simp)]
      exact heap_alloc_new _ _
    · have := heap_alloc_new (W.alloc (.cells (opR k 0 0 0 0 false 0 0 (.slice none 0 0) 0 0) 28)) (.cells (opR 0 0 0 0 0 false 0 0 (.slice none 0 0) 0 0) 28)
      simpa using this
  obtain ⟨w3, hw3⟩ : ∃ w3, w3 = w2.setCell ⟨P, 5, none⟩ (.bool true) := ⟨_, rfl⟩
  have HS3 : Hid (RF W P R (opR k 0 0 0 0 true 0 0 (.slice none 0 0) 0 0) w3) := keepH (by rw [hw3]; exact hS2.set 5 _)
  have HW3 := keepH hw3
  have HS2 := keepH hS2
  have HW2 := keepH hw2
  have HP := keepH hP
  have HR := keepH hR
  have hrl : r.length + 1 ≤ 200000000 := by simpa using hf
  have HA := keepH (fun f (hl : f.length ≤ r.length) w (hb : Below W.heap.size W w) => atoi_each f (by omega) w (T.on hb))
  obtain ⟨x0, hx0, hxi0⟩ := idx_str (64 :: r) 0 (by simp) 64
  have e64 : x0 = 64 := hxi0.2 rfl
  subst e64
  have hx0' : ∀ W, (Instr.index 9 (.string (mkS (64 :: r))) (.int .i64 0)).run Tryz.prog W = .ok (.int .u8 64) W := fun W => hx0 W
  have hix := fun n hn => idx_str (64 :: r) n hn 46
  have hcm0 : ∀ (n : Nat) (h1 : 1 ≤ n) (h2 : n ≤ r.length + 1), ∀ w, (Instr.slice 9 (.string (mkS (64 :: r))) (some (.int .i64 1)) (some (.int .i64 (n : Int))) none).run Tryz.prog w = .ok (.string (mkS (r.take (n - 1)))) w := fun n h1 h2 w => cut_m (64 :: r) 1 n h1 (by simpa using h2) w
  have hcl0 : ∀ (n : Nat) (h2 : n ≤ r.length + 1), ∀ w, 1 ≤ n → (Instr.slice 9 (.string (mkS (64 :: r))) (some (.int .i64 (n : Int))) none none).run Tryz.prog w = .ok (.string (mkS (r.drop (n - 1)))) w := fun n h2 w h1 => by
    have := cut_l (64 :: r) n (by simpa using h2) w
    obtain ⟨m, rfl⟩ : ∃ m, n = m + 1 := ⟨n - 1, by omega⟩
    simpa using this
  have hcl1 : ∀ (n : Nat) (h2 : n ≤ r.length + 1 ∧ 1 ≤ n), ∀ w, (Instr.slice 9 (.string (mkS (64 :: r))) (some (.int .i64 (n : Int))) none none).run Tryz.prog w = .ok (.string (mkS (r.drop (n - 1)))) w := fun n h2 w => hcl0 n h2.1 w h2.2
  have HX := keepH hix
  have HC := keepH hcm0
  have HD := keepH hcl1
  have hsz : (mkS (64 :: r)).size = r.length + 1 := by rw [mkS_size]; simp
  obtain ⟨s, hs⟩ : ∃ s, s = mkS (64 :: r) := ⟨_, rfl⟩
  rw [← hs] at HX HC HD hsz hx0' ⊢
  obtain ⟨N, hN⟩ : ∃ N, N = r.length + 1 := ⟨_, rfl⟩
  rw [← hN] at hsz
  have HN := keepH hN
  have hNb : N ≤ 200000000 := by omega
  have z0 : ((N : Int) == 0) = false := by rw [hN]; simp; omega
  clear hs hx0 hxi0 hix hcm0 hcl0 hcl1 hS2 hw2 hw3 hP hR T hf hN hrl
  go_enter Tryz.func33, Tryz.ntmps33
  go_upto_region 4 with fail
  rw [show (W.alloc (.cells (opR k 0 0 0 0 false 0 0 (.slice none 0 0) 0 0) 28)).alloc (.cells #[.int .u8 0, .int .u64 0, .int .u64 0, .int .u64 0, .int .u64 0, .bool false, .int .i64 0, .int .i64 0, .slice none 0 0, .int .u64 0, .int .u64 0] 28) = w2 from HW2.out.symm, ← HR.out, ← HP.out]
  go_wp2_with fail
  go_loopw [5] (fun i wr => ∃ n : Nat, 1 ≤ n ∧ n ≤ N ∧ i = .int .i64 (n : Int) ∧ Hid (noB 46 (r.take (n - 1))) ∧ w2 = wr) (fun i _ => N - (intOf i).toNat)
  case atStart => exact ⟨1, by omega, by have := HN.out; omega, rfl, keepH (by simpa using noB_nil 46), rfl⟩
  case round =>
    obtain ⟨n, hn1, hnN, rfl, HNB, rfl⟩ := hrel
    by_cases hlt : n < N
    · have t1 : (n : Int) < (N : Int) := by omega
      have t0 : (0 : Int) ≤ (n : Int) := by omega
      have qw : IntKind.i64.wrap ((n : Int) + 1) = ((n + 1 : Nat) : Int) := by rw [IntKind.wrap_i64]; omega
      obtain ⟨x, hx, hxi⟩ := HX.out n (by have := HN.out; simp; omega)
      by_cases h46 : (64 :: r)[n]? = some 46
      · have e46 : x = 46 := hxi.2 h46
        subst e46
        clear hxi
        have hx' : ∀ W, (Instr.index 9 (.string s) (.int .i64 (n : Int))).run Tryz.prog W = .ok (.int .u8 46) W := fun W => hx W
        clear hx
        have hcm := HC.out n (by omega) (by have := HN.out; omega)
        obtain ⟨l, hl⟩ : ∃ l, l = r.take (n - 1) := ⟨_, rfl⟩
        rw [← hl] at hcm
        have HAT := keepH (HA.out l (by rw [hl]; have h1 := List.length_take (i := n - 1) (l := r); omega) w3 HS3.out.bel)
        obtain ⟨sl, hsl⟩ : ∃ s, s = mkS l := ⟨_, rfl⟩
        rw [← hsl] at hcm HAT
        have HL := keepH hl
        have hcl := HD.out (n + 1) (by have := HN.out; omega)
        obtain ⟨q, hq⟩ : ∃ q, q = r.drop n := ⟨_, rfl⟩
        rw [show n + 1 - 1 = n by omega, ← hq, show ((n + 1 : Nat) : Int) = (n : Int) + 1 by omega] at hcl
        have HCP : Hid (CutP r l q) := keepH (.inl ⟨by rw [hl, hq]; exact dot_cut hn1 h46, by rw [hl]; exact HNB.out⟩)
        obtain ⟨sq, hsq⟩ : ∃ s, s = mkS q := ⟨_, rfl⟩
        have HAQ0 := keepH (fun w (hb : Below W.heap.size W w) => HA.out q (by rw [hq]; have := List.length_drop (l := r) (i := n); omega) w hb)
        rw [← hsq] at hcl HAQ0
        clear hq hsq
        clear hl hsl
        have p5 : w2.cell? ⟨P, 5, none⟩ = _ := cell_of HS2.out.bx 5
        have q5 : w2.frozen? ⟨P, 5, none⟩ = false := free_of HS2.out.bx 5
        go_upto_region 8 with fail
        rw [← HW3.out]
        clear p5 q5
        go_wp2_with fail
        refine HAT.out.mono ?_
        rintro e w4 ⟨v, rfl, ⟨x, px, rfl, hxr, hxz⟩, B4⟩
        have HS4 := keepH (HS3.out.on B4)
        have p6 : w4.cell? ⟨P, 6, none⟩ = _ := cell_of HS4.out.bx 6
        have q6 : w4.frozen? ⟨P, 6, none⟩ = false := free_of HS4.out.bx 6
        obtain ⟨w5, hw5⟩ : ∃ w5, w5 = w4.setCell ⟨P, 6, none⟩ (.int .i64 x) := ⟨_, rfl⟩
        have HS5 : Hid (RF W P R (opR k 0 0 0 0 true x 0 (.slice none 0 0) 0 0) w5) := keepH (by rw [hw5]; exact HS4.out.set 6 _)
        have HW5 := keepH hw5
        have HXR := keepH hxr
        have HXZ := keepH hxz
        clear hw5 hxr hxz B4
        go_upto_region 9 with fail
        rw [← HW5.out]
        clear p6 q6
        have HAQ := keepH (HAQ0.out w5 HS5.out.bel)
        go_wp2_with fail
        refine HAQ.out.mono ?_
        rintro e w6 ⟨v, rfl, ⟨y, py, rfl, hyr, hyz⟩, B6⟩
        have HS6 := keepH (HS5.out.on B6)
        have p7 : w6.cell? ⟨P, 7, none⟩ = _ := cell_of HS6.out.bx 7
        have q7 : w6.frozen? ⟨P, 7, none⟩ = false := free_of HS6.out.bx 7
        obtain ⟨w7, hw7⟩ : ∃ w7, w7 = w6.setCell ⟨P, 7, none⟩ (.int .i64 y) := ⟨_, rfl⟩
        have HS7 : Hid (RF W P R (opR k 0 0 0 0 true x y (.slice none 0 0) 0 0) w7) := keepH (by rw [hw7]; exact HS6.out.set 7 _)
        have HW7 := keepH hw7
        have HYR := keepH hyr
        have HYZ := keepH hyz
        clear hw7 hyr hyz B6
        go_upto_region 11 with fail
        rw [← HW7.out]
        clear p7 q7
        have d0 : w7.cell? ⟨P, 0, none⟩ = _ := cell_of HS7.out.bx 0
        have d1 : w7.cell? ⟨P, 1, none⟩ = _ := cell_of HS7.out.bx 1
        have d2 : w7.cell? ⟨P, 2, none⟩ = _ := cell_of HS7.out.bx 2
        have d3 : w7.cell? ⟨P, 3, none⟩ = _ := cell_of HS7.out.bx 3
        have d4 : w7.cell? ⟨P, 4, none⟩ = _ := cell_of HS7.out.bx 4
        have d5 : w7.cell? ⟨P, 5, none⟩ = _ := cell_of HS7.out.bx 5
        have d6 : w7.cell? ⟨P, 6, none⟩ = _ := cell_of HS7.out.bx 6
        have d7 : w7.cell? ⟨P, 7, none⟩ = _ := cell_of HS7.out.bx 7
        have d8 : w7.cell? ⟨P, 8, none⟩ = _ := cell_of HS7.out.bx 8
        have d9 : w7.cell? ⟨P, 9, none⟩ = _ := cell_of HS7.out.bx 9
        have d10 : w7.cell? ⟨P, 10, none⟩ = _ := cell_of HS7.out.bx 10
        go_wp2_with (first | (refine wpList_store_row rfl 28 _ _ rfl R (opR k 0 0 0 0 true x y (.slice none 0 0) 0 0) rfl rfl 28 (opR 0 0 0 0 0 false 0 0 (.slice none 0 0) 0 0) HS7.out.rr (by kernel_rfl) rfl (by simp [Value.oneCell']) ?_) | fail)
        have hrow := setRow_heap _ R _ (opR k 0 0 0 0 true x y (.slice none 0 0) 0 0) 28 (0, 0) HS7.out.rr
        have e0 := cell_of hrow 0
        have e1 := cell_of hrow 1
        have e2 := cell_of hrow 2
        have e3 := cell_of hrow 3
        have e4 := cell_of hrow 4
        have e5 := cell_of hrow 5
        have e6 := cell_of hrow 6
        have e7 := cell_of hrow 7
        have e8 := cell_of hrow 8
        have e9 := cell_of hrow 9
        have e10 := cell_of hrow 10
        simp at e0 e1 e2 e3 e4 e5 e6 e7 e8 e9 e10
        refine bodyPost_ret (v := .agg (opR k 0 0 0 0 true x y (.slice none 0 0) 0 0)) (by simp [results, Tryz.results33, go_sem, e0, e1, e2, e3, e4, e5, e6, e7, e8, e9, e10]) rfl ?_
        exact ⟨0, true, x, y, rfl, rf_ref HCP.out HXR.out HYR.out HXZ.out HYZ.out, below_setRow HS7.out.bel HS7.out.lr _⟩
      · have HNX := keepH (dot_more hn1 (by have := HN.out; simp; omega) HNB.out h46)
        have q46 : ¬ ((x : Nat) : Int) = 46 := fun q => h46 (hxi.1 (by rw [show (46 : UInt8).toNat = 46 from rfl]; omega))
        have u46 : ((x : Int) != 46) = true := by simpa using q46
        clear hxi h46
        go_wp2_with fail
        go_roundw
        case rel => exact ⟨n + 1, by omega, by omega, by first | rfl | go_num, HNX, by first | rfl | trivial⟩
        case measure => simp [intOf]; omega
    · obtain rfl : n = N := by omega
      have t1 : ¬ (n : Int) < (n : Int) := by omega
      have HNR : Hid (noB 46 r) := keepH (by have := HNB.out; rw [HN.out, Nat.add_sub_cancel, List.take_of_length_le (Nat.le_refl _)] at this; exact this)
      have HLR : Hid (r.take (n - 1) = r) := keepH (by rw [HN.out, Nat.add_sub_cancel, List.take_of_length_le (Nat.le_refl _)])
      have hcm := HC.out n (by omega) (by have := HN.out; omega)
      obtain ⟨l, hl⟩ : ∃ l, l = r.take (n - 1) := ⟨_, rfl⟩
      rw [← hl] at hcm
      have HAT := keepH (HA.out l (by rw [hl]; have h1 := List.length_take (i := n - 1) (l := r); omega) w3 HS3.out.bel)
      obtain ⟨sl, hsl⟩ : ∃ s, s = mkS l := ⟨_, rfl⟩
      rw [← hsl] at hcm HAT
      have HL := keepH hl
      clear hl hsl
      have p5 : w2.cell? ⟨P, 5, none⟩ = _ := cell_of HS2.out.bx 5
      have q5 : w2.frozen? ⟨P, 5, none⟩ = false := free_of HS2.out.bx 5
      go_upto_region 8 with fail
      rw [← HW3.out]
      clear p5 q5
      go_wp2_with fail
      refine HAT.out.mono ?_
      rintro e w4 ⟨v, rfl, ⟨x, px, rfl, hxr, hxz⟩, B4⟩
      have HS4 := keepH (HS3.out.on B4)
      have p6 : w4.cell? ⟨P, 6, none⟩ = _ := cell_of HS4.out.bx 6
      have q6 : w4.frozen? ⟨P, 6, none⟩ = false := free_of HS4.out.bx 6
      obtain ⟨w5, hw5⟩ : ∃ w5, w5 = w4.setCell ⟨P, 6, none⟩ (.int .i64 x) := ⟨_, rfl⟩
      have HS5 : Hid (RF W P R (opR k 0 0 0 0 true x 0 (.slice none 0 0) 0 0) w5) := keepH (by rw [hw5]; exact HS4.out.set 6 _)
      have HW5 := keepH hw5
      have HXR := keepH hxr
      have HXZ := keepH hxz
      clear hw5 hxr hxz B4
      go_upto_region 9 with fail
      rw [← HW5.out]
      clear p6 q6
      have d0 : w5.cell? ⟨P, 0, none⟩ = _ := cell_of HS5.out.bx 0
      have d1 : w5.cell? ⟨P, 1, none⟩ = _ := cell_of HS5.out.bx 1
      have d2 : w5.cell? ⟨P, 2, none⟩ = _ := cell_of HS5.out.bx 2
      have d3 : w5.cell? ⟨P, 3, none⟩ = _ := cell_of HS5.out.bx 3
      have d4 : w5.cell? ⟨P, 4, none⟩ = _ := cell_of HS5.out.bx 4
      have d5 : w5.cell? ⟨P, 5, none⟩ = _ := cell_of HS5.out.bx 5
      have d6 : w5.cell? ⟨P, 6, none⟩ = _ := cell_of HS5.out.bx 6
      have d7 : w5.cell? ⟨P, 7, none⟩ = _ := cell_of HS5.out.bx 7
      have d8 : w5.cell? ⟨P, 8, none⟩ = _ := cell_of HS5.out.bx 8
      have d9 : w5.cell? ⟨P, 9, none⟩ = _ := cell_of HS5.out.bx 9
      have d10 : w5.cell? ⟨P, 10, none⟩ = _ := cell_of HS5.out.bx 10
      go_wp2_with (first | (refine wpList_store_row rfl 28 _ _ rfl R (opR k 0 0 0 0 true x 0 (.slice none 0 0) 0 0) rfl rfl 28 (opR 0 0 0 0 0 false 0 0 (.slice none 0 0) 0 0) HS5.out.rr (by kernel_rfl) rfl (by simp [Value.oneCell']) ?_) | fail)
      have hrow := setRow_heap _ R _ (opR k 0 0 0 0 true x 0 (.slice none 0 0) 0 0) 28 (0, 0) HS5.out.rr
      have e0 := cell_of hrow 0
      have e1 := cell_of hrow 1
      have e2 := cell_of hrow 2
      have e3 := cell_of hrow 3
      have e4 := cell_of hrow 4
      have e5 := cell_of hrow 5
      have e6 := cell_of hrow 6
      have e7 := cell_of hrow 7
      have e8 := cell_of hrow 8
      have e9 := cell_of hrow 9
      have e10 := cell_of hrow 10
      simp at e0 e1 e2 e3 e4 e5 e6 e7 e8 e9 e10
      refine bodyPost_ret (v := .agg (opR k 0 0 0 0 true x 0 (.slice none 0 0) 0 0)) (by simp [results, Tryz.results33, go_sem, e0, e1, e2, e3, e4, e5, e6, e7, e8, e9, e10]) rfl ?_
      exact ⟨0, true, x, 0, rfl, rf_ref (.inr ⟨HNR.out, rfl, rfl⟩) HXR.out ⟨by omega, by omega⟩ (by have h := HXZ.out; rw [HL.out, HLR.out] at h; exact h) (fun z hz => by cases hz), below_setRow HS5.out.bel HS5.out.lr _⟩
theorem ref_any (k : Nat) (f : List UInt8) (hf : f.length ≤ 200000000) (W : World) (T : Tb W) :
    Calls Tryz.prog 33 #[.agg (opR k 0 0 0 0 false 0 0 (.slice none 0 0) 0 0), .string (mkS f)] W (RefQ W k f) := by
  by_cases h : f.head? = some 64
  · cases f with
    | nil => simp at h
    | cons c r =>
      simp at h
      subst h
      exact ref_at k r hf W T
  · exact ref_nat k f hf h W T
end Go.Proofs.YtmmaniolaljjlaaGreatDoor
