/- A copy of a script in memory of its own, by the document. (mkSeu.py) -/
import Derived.Test.YtmmaniolaljjlaaGreatDoorB10RMemW
import Derived.Deep.RegionHeld
import Derived.Test.YtmmaniolaljjlaaGreatDoorB13Sfb
import Derived.Test.YtmmaniolaljjlaaGreatDoorB14Scr
import Derived.Test.YtmmaniolaljjlaaGreatDoorB11Sej
import Derived.Test.YtmmaniolaljjlaaGreatDoorB12Scq
import Derived.Test.YtmmaniolaljjlaaGreatDoorB8Sco
import Derived.Test.YtmmaniolaljjlaaGreatDoorB6Scf
import Derived.Deep.CutRange
import Derived.Deep.CutBlock
namespace Go.Proofs.YtmmaniolaljjlaaGreatDoor
open Go.RowKit Go.Shelf Go.Maps
set_option linter.unusedVariables false

theorem row_form {W : World} {e : TypeId} {s n : Nat} {v : Value} {xs : List Value} (h : W.ownsRow 0 e s v n xs) : ∃ p c, v = .slice p n c := by
  rcases h.2 with ⟨hv, h0⟩ | ⟨g, cap, cur, hv, _⟩
  · exact ⟨none, 0, by rw [hv, h0]⟩
  · exact ⟨_, cap, hv⟩
end Go.Proofs.YtmmaniolaljjlaaGreatDoor
/- A script of one's own that is read line by line: what lies in memory. -/
namespace Go.Proofs.YtmmaniolaljjlaaGreatDoor
open Go.RowKit Go.Shelf Go.Maps
set_option linter.unusedVariables false

def rowTy (t : TypeId) : Prop := t = 3 ∨ t = 75 ∨ t = 28
/-- a block that such a script owns -/
def OwnT (Z W : World) (b : Nat) : Prop := Z.heap.size ≤ b ∧ (∃ cur t, W.heap[b]? = some (.cells cur t (0, 0)) ∧ rowTy t) ∧ ∀ x : Int, W.cell? ⟨b, 0, none⟩ ≠ some (.int .u64 x)
theorem OwnT.eq {Z W X : World} {b : Nat} (h : OwnT Z X b) (e : X.heap[b]? = W.heap[b]?) : OwnT Z W b :=
  ⟨h.1, by rw [← e]; exact h.2.1, fun x => by rw [← World.cell?_of_block (w := W) (w' := X) (a := ⟨b, 0, none⟩) e]; exact h.2.2 x⟩
def ChO (Z a b : World) : Prop := Chg (OwnT Z a) a b
theorem ChO.trans {Z a b c : World} (h : ChO Z a b) (k : ChO Z b c) : ChO Z a c :=
  ⟨k.os.trans h.os, k.tape.trans h.tape, k.output.trans h.output, Nat.le_trans h.size k.size, fun i hi hn => by
    have e1 := h.block i hi hn
    exact (k.block i (Nat.lt_of_lt_of_le hi h.size) (fun hh => hn (hh.eq e1))).trans e1⟩
theorem ChO.of (Z : World) {a b : World} (h : Below a.heap.size a b) : ChO Z a b := ⟨h.os, h.tape, h.output, h.size, fun i hi _ => h.block i hi⟩
theorem ChO.bel {Z a b : World} (h : ChO Z a b) (hZ : Below Z.heap.size Z a) : Below Z.heap.size Z b :=
  ⟨h.os.trans hZ.os, h.tape.trans hZ.tape, h.output.trans hZ.output, Nat.le_trans hZ.size h.size, fun i hi =>
    (h.block i (Nat.lt_of_lt_of_le hi hZ.size) (fun hh => by have := hh.1; omega)).trans (hZ.block i hi)⟩
theorem ChO.kept {Z a b : World} (h : ChO Z a b) {P : Nat} {o : Obj} (hp : a.heap[P]? = some o) (hn : ∀ cs t, o = .cells cs t (0, 0) → rowTy t → ∃ x, cs[0]? = some (.int .u64 x)) : b.heap[P]? = some o :=
  (h.block P (Array.getElem?_eq_some_iff.1 hp).1 (fun hh => by
    obtain ⟨_, ⟨cur, t, h1, h2⟩, h3⟩ := hh
    rw [hp] at h1
    injection h1 with h1
    obtain ⟨x, hx⟩ := hn _ _ h1 h2
    rw [h1] at hp
    exact h3 x ((cell_of hp 0).trans hx))).trans hp
def Mine (W : World) (b : Nat) : Prop := (∃ cur t, W.heap[b]? = some (.cells cur t (0, 0)) ∧ rowTy t) ∨ ∃ x : Int, W.cell? ⟨b, 0, none⟩ = some (.int .u64 x)
def KpM (W X : World) : Prop := W.heap.size ≤ X.heap.size ∧ ∀ b, b < W.heap.size → Mine W b → X.heap[b]? = W.heap[b]?
theorem KpM.bel {W X : World} (h : Below W.heap.size W X) : KpM W X := ⟨h.size, fun b hb _ => h.block b hb⟩
theorem KpM.at {W X : World} {P : Nat} (h : Chg (fun b => b = P) W X) {cs : Array Value} {t : TypeId} {f : Nat × Nat} (hp : W.heap[P]? = some (.cells cs t f)) (ht : ¬ rowTy t) (h0 : ∀ x, cs[0]? ≠ some (.int .u64 x)) : KpM W X := by
  refine ⟨h.size, fun b hb hm => h.block b hb (fun e => ?_)⟩
  subst e
  rcases hm with ⟨cur, t', h1, h2⟩ | ⟨x, h1⟩
  · rw [hp] at h1
    injection h1 with h1
    injection h1 with _ h1
    subst h1
    exact ht h2
  · rw [cell_of hp 0] at h1
    exact h0 x h1
theorem KU.keep {B : Nat} {lp : Option Addr} {us : List Nat} {W X : World} (h : KU B lp us W) (hs : W.heap.size ≤ X.heap.size) (hk : ∀ b, b < W.heap.size → (∃ x : Int, W.cell? ⟨b, 0, none⟩ = some (.int .u64 x)) → X.heap[b]? = W.heap[b]?) : KU B lp us X := by
  rcases h with h | ⟨g, h1, h2, h3, h4⟩
  · exact .inl h
  · cases us with
    | nil => exact .inl rfl
    | cons a us =>
      refine .inr ⟨g, h1, h2, Nat.lt_of_lt_of_le h3 hs, fun i x hx => ?_⟩
      rw [World.cell?_of_block (w := W) (hk g h3 ⟨_, h4 0 a rfl⟩)]
      exact h4 i x hx
/-- operations of one's own, their keys anywhere behind -/
def OO (Z wr : World) (v : Value) (l : List Opx) : Prop := ∃ ks : List Value, ks.length = l.length ∧ wr.ownsRow 0 28 11 v l.length (opRows l ks) ∧ (l = [] → v = .slice none 0 0) ∧ (∀ b, v.ownBlock = some b → Z.heap.size ≤ b) ∧ ∀ (i : Nat) (o : Opx) (kv : Value), l[i]? = some o → ks[i]? = some kv → ∃ kp kc, kv = .slice kp o.keys.length kc ∧ KU Z.heap.size kp o.keys wr
theorem OO.nil (Z wr : World) : OO Z wr (.slice none 0 0) [] := ⟨[], rfl, World.ownsRow_nil _ _ _ _, fun _ => rfl, fun b hb => by simp [Value.ownBlock] at hb, fun i o kv ho => by simp at ho⟩
theorem OO.keep {Z wr X : World} {v : Value} {l : List Opx} (h : OO Z wr v l) (hs : wr.heap.size ≤ X.heap.size) (hr : ∀ b, v.ownBlock = some b → X.heap[b]? = wr.heap[b]?) (hk : ∀ b, b < wr.heap.size → (∃ x : Int, wr.cell? ⟨b, 0, none⟩ = some (.int .u64 x)) → X.heap[b]? = wr.heap[b]?) : OO Z X v l := by
  obtain ⟨ks, h1, h2, h3, h4, h5⟩ := h
  refine ⟨ks, h1, row_kept h2 hr, h3, h4, fun i o kv a b => ?_⟩
  obtain ⟨kp, kc, e, h6⟩ := h5 i o kv a b
  exact ⟨kp, kc, e, h6.keep hs hk⟩
theorem opRows_head {o : Opx} {l : List Opx} {ks : List Value} (h : ks.length = (o :: l).length) : (opRows (o :: l) ks)[0]? = some (.int .u8 (o.k : Int)) := by
  cases ks with
  | nil => simp at h
  | cons a ks => simp [opRows, opC]
/-- a row's first cell -/
theorem row_first {W : World} {e : TypeId} {s n : Nat} {v x : Value} {xs : List Value} (h : W.ownsRow 0 e s v n xs) (hx : xs[0]? = some x) {b : Nat} (hb : v.ownBlock = some b) : W.cell? ⟨b, 0, none⟩ = some x := by
  have := h.cells (g := b) hb 0 x hx
  rwa [Addr.add_mid] at this
theorem OO.first {Z wr : World} {v : Value} {l : List Opx} (h : OO Z wr v l) {b : Nat} (hb : v.ownBlock = some b) : ∃ k : Int, wr.cell? ⟨b, 0, none⟩ = some (.int .u8 k) := by
  obtain ⟨ks, h1, h2, h3, h4, h5⟩ := h
  cases l with
  | nil => rw [h3 rfl] at hb; simp [Value.ownBlock] at hb
  | cons o l => exact ⟨_, row_first h2 (opRows_head h1) hb⟩
theorem OO.slice {Z wr : World} {v : Value} {l : List Opx} (h : OO Z wr v l) : ∃ p c, v = .slice p l.length c := by
  obtain ⟨ks, h1, h2, h3, h4, h5⟩ := h
  rcases h2.2 with ⟨hv, h0⟩ | ⟨g, cap, cur, hv, _⟩
  · exact ⟨none, 0, by rw [hv, h0]⟩
  · exact ⟨_, cap, hv⟩
theorem OO.blk {Z wr : World} {v : Value} {l : List Opx} (h : OO Z wr v l) {b : Nat} (hb : v.ownBlock = some b) : ∃ cur, wr.heap[b]? = some (.cells cur 28 (0, 0)) := by
  obtain ⟨ks, h1, h2, h3, h4, h5⟩ := h
  exact row_block h2 b hb
structure OS (Z wr : World) (tv pv : Value) (ts : List (List Opx)) (ps : List Int) : Prop where
  pr : wr.ownsRow 0 3 1 pv ps.length (iRow ps)
  pb : ∀ b, pv.ownBlock = some b → Z.heap.size ≤ b
  p0 : ps = [] → pv = .slice none 0 0
  t0 : ts = [] → tv = .slice none 0 0
  tb : ∀ b, tv.ownBlock = some b → Z.heap.size ≤ b
  tr : ∃ vs : List Value, vs.length = ts.length ∧ wr.ownsRow 0 75 1 tv ts.length vs ∧ (∀ (i : Nat) (l : List Opx) (v : Value), ts[i]? = some l → vs[i]? = some v → OO Z wr v l) ∧ ∀ (i j : Nat) (v v' : Value) (b : Nat), vs[i]? = some v → vs[j]? = some v' → v.ownBlock = some b → v'.ownBlock = some b → i = j
theorem OS.nil (Z wr : World) : OS Z wr (.slice none 0 0) (.slice none 0 0) [] [] := ⟨World.ownsRow_nil _ _ _ _, fun b hb => by simp [Value.ownBlock] at hb, fun _ => rfl, fun _ => rfl, fun b hb => by simp [Value.ownBlock] at hb, ⟨[], rfl, World.ownsRow_nil _ _ _ _, fun i l v h => by simp at h, fun i j v v' b h => by simp at h⟩⟩
theorem mine_row {W : World} {e : TypeId} {s n : Nat} {v : Value} {xs : List Value} (h : W.ownsRow 0 e s v n xs) (he : rowTy e) {b : Nat} (hb : v.ownBlock = some b) : b < W.heap.size ∧ Mine W b := by
  obtain ⟨cur, hc⟩ := row_block h b hb
  exact ⟨(Array.getElem?_eq_some_iff.1 hc).1, .inl ⟨cur, e, hc, he⟩⟩
theorem OS.keep {Z wr X : World} {tv pv : Value} {ts : List (List Opx)} {ps : List Int} (h : OS Z wr tv pv ts ps) (hk : KpM wr X) : OS Z X tv pv ts ps := by
  obtain ⟨vs, v1, v2, v3, v4⟩ := h.tr
  refine ⟨row_kept h.pr fun b hb => ?_, h.pb, h.p0, h.t0, h.tb, ⟨vs, v1, row_kept v2 fun b hb => ?_, fun i l v a b => ?_, v4⟩⟩
  · obtain ⟨q1, q2⟩ := mine_row h.pr (.inl rfl) hb
    exact hk.2 b q1 q2
  · obtain ⟨q1, q2⟩ := mine_row v2 (.inr (.inl rfl)) hb
    exact hk.2 b q1 q2
  · refine (v3 i l v a b).keep hk.1 (fun c hc => ?_) (fun c hc hx => hk.2 c hc (.inr hx))
    obtain ⟨cur, hcur⟩ := (v3 i l v a b).blk hc
    exact hk.2 c (Array.getElem?_eq_some_iff.1 hcur).1 (.inl ⟨cur, _, hcur, .inr (.inr rfl)⟩)
theorem OS.on {Z wr X : World} {tv pv : Value} {ts : List (List Opx)} {ps : List Int} (h : OS Z wr tv pv ts ps) (hb : Below wr.heap.size wr X) : OS Z X tv pv ts ps := h.keep (KpM.bel hb)
theorem own_row {Z W : World} {e : TypeId} {s n : Nat} {v x : Value} {xs : List Value} (h : W.ownsRow 0 e s v n xs) (he : rowTy e) {b : Nat} (hb : v.ownBlock = some b) (hZ : Z.heap.size ≤ b) (hx : xs[0]? = some x) (hn : ∀ y, x ≠ .int .u64 y) : OwnT Z W b := by
  obtain ⟨cur, hc⟩ := row_block h b hb
  refine ⟨hZ, ⟨cur, e, hc, he⟩, fun y hy => ?_⟩
  rw [row_first h hx hb] at hy
  injection hy with hy
  exact hn y hy
theorem int_head {ps : List Int} (h : ps ≠ []) : ∃ z, (iRow ps)[0]? = some (.int .i64 z) := by
  cases ps with
  | nil => exact absurd rfl h
  | cons a l => exact ⟨a, rfl⟩
/-- picks are added -/
theorem OS.addP {Z wa w2 : World} {tv pv pv' : Value} {ts : List (List Opx)} {ps l : List Int} (h : OS Z wa tv pv ts ps) (hZ : Z.heap.size ≤ wa.heap.size) (hl : l ≠ []) (hr : w2.ownsRow 0 3 1 pv' (ps.length + l.length) (iRow ps ++ iRow l)) (hg : wa.grownBy w2 pv.ownBlock) (hw : pv'.ownBlock = pv.ownBlock ∨ pv'.ownBlock = some wa.heap.size) : OS Z w2 tv pv' ts (ps ++ l) ∧ ChO Z wa w2 := by
  have hp1 : ∀ b, pv.ownBlock = some b → ∃ z, wa.cell? ⟨b, 0, none⟩ = some (.int .i64 z) ∧ OwnT Z wa b := fun b hb => by
    have hne : ps ≠ [] := fun e => by rw [h.p0 e] at hb; simp [Value.ownBlock] at hb
    obtain ⟨z, hz⟩ := int_head hne
    exact ⟨z, row_first h.pr hz hb, own_row h.pr (.inl rfl) hb (h.pb b hb) hz (fun y e => by injection e with e; cases e)⟩
  have oth : ∀ b, b < wa.heap.size → ¬ pv.ownBlock = some b → w2.heap[b]? = wa.heap[b]? := fun b hb hn => hg.block b hb (fun e => hn e.symm)
  obtain ⟨vs, v1, v2, v3, v4⟩ := h.tr
  refine ⟨⟨by simpa [iRow] using hr, fun b hb => ?_, fun e => by simp at e; exact absurd e.2 hl, h.t0, h.tb, ⟨vs, v1, row_kept v2 fun b hb => oth b (row_lt v2 b hb) (rows_apart v2 h.pr (by decide) b hb), fun i l v a b => (v3 i l v a b).keep hg.size (fun c hc => ?_) (fun c hc hx => oth c hc (fun e => ?_)), v4⟩⟩, ⟨hg.os, hg.tape, hg.output, hg.size, fun i hi hn => oth i hi (fun e => hn (hp1 i e).choose_spec.2)⟩⟩
  · rcases hw with e | e
    · rw [e] at hb; exact h.pb b hb
    · rw [e] at hb; injection hb with hb; omega
  · obtain ⟨ks, k1, k2, k3, k4, k5⟩ := v3 i l v a b
    exact oth c (row_lt k2 c hc) (rows_apart k2 h.pr (by decide) c hc)
  · obtain ⟨z, hz, _⟩ := hp1 c e
    obtain ⟨x, hx⟩ := hx
    rw [hz] at hx
    injection hx with hx
    injection hx with hx
    cases hx
theorem vs_head {Z wr : World} {ts : List (List Opx)} {vs : List Value} (v1 : vs.length = ts.length) (v3 : ∀ (i : Nat) (l : List Opx) (v : Value), ts[i]? = some l → vs[i]? = some v → OO Z wr v l) (hne : ts ≠ []) : ∃ p n c, vs[0]? = some (.slice p n c) := by
  cases ts with
  | nil => exact absurd rfl hne
  | cons a ts =>
    cases vs with
    | nil => simp at v1
    | cons v vs =>
      obtain ⟨p, c, e⟩ := (v3 0 a v rfl rfl).slice
      exact ⟨p, a.length, c, by simp [e]⟩
/-- a thread is added -/
theorem OS.addT {Z wa w2 : World} {tv tv' pv : Value} {ts : List (List Opx)} {ps : List Int} {vs : List Value} (h : OS Z wa tv pv ts ps) (hZ : Z.heap.size ≤ wa.heap.size)
    (v1 : vs.length = ts.length) (v2 : wa.ownsRow 0 75 1 tv ts.length vs) (v3 : ∀ (i : Nat) (l : List Opx) (v : Value), ts[i]? = some l → vs[i]? = some v → OO Z wa v l) (v4 : ∀ (i j : Nat) (v v' : Value) (b : Nat), vs[i]? = some v → vs[j]? = some v' → v.ownBlock = some b → v'.ownBlock = some b → i = j)
    (hr : w2.ownsRow 0 75 1 tv' (ts.length + 1) (vs ++ [.slice none 0 0])) (hg : wa.grownBy w2 tv.ownBlock) (hw : tv'.ownBlock = tv.ownBlock ∨ tv'.ownBlock = some wa.heap.size) : OS Z w2 tv' pv (ts ++ [[]]) ps ∧ ChO Z wa w2 := by
  have hp1 : ∀ b, tv.ownBlock = some b → (∃ p n c, wa.cell? ⟨b, 0, none⟩ = some (.slice p n c)) ∧ OwnT Z wa b := fun b hb => by
    have hne : ts ≠ [] := fun e => by rw [h.t0 e] at hb; simp [Value.ownBlock] at hb
    obtain ⟨p, n, c, hz⟩ := vs_head v1 v3 hne
    exact ⟨⟨p, n, c, row_first v2 hz hb⟩, own_row v2 (.inr (.inl rfl)) hb (h.tb b hb) hz (fun y e => by cases e)⟩
  have oth : ∀ b, b < wa.heap.size → ¬ tv.ownBlock = some b → w2.heap[b]? = wa.heap[b]? := fun b hb hn => hg.block b hb (fun e => hn e.symm)
  have ky : ∀ c, c < wa.heap.size → (∃ x : Int, wa.cell? ⟨c, 0, none⟩ = some (.int .u64 x)) → w2.heap[c]? = wa.heap[c]? := fun c hc hx => oth c hc (fun e => by
    obtain ⟨⟨p, n, cc, hz⟩, _⟩ := hp1 c e
    obtain ⟨x, hx⟩ := hx
    rw [hz] at hx
    cases hx)
  refine ⟨⟨row_kept h.pr fun b hb => oth b (row_lt h.pr b hb) (rows_apart h.pr v2 (by decide) b hb), h.pb, h.p0, fun e => by simp at e, fun b hb => ?_, ⟨vs ++ [.slice none 0 0], by simp [v1], by rw [List.length_append]; exact hr, fun i l v a b => ?_, fun i j v v' b a1 a2 a3 a4 => ?_⟩⟩, ⟨hg.os, hg.tape, hg.output, hg.size, fun i hi hn => oth i hi (fun e => hn (hp1 i e).2)⟩⟩
  · rcases hw with e | e
    · rw [e] at hb; exact h.tb b hb
    · rw [e] at hb; injection hb with hb; omega
  · by_cases hlt : i < ts.length
    · rw [List.getElem?_append_left hlt] at a
      rw [List.getElem?_append_left (by omega)] at b
      refine (v3 i l v a b).keep hg.size (fun c hc => ?_) ky
      obtain ⟨ks, k1, k2, k3, k4, k5⟩ := v3 i l v a b
      exact oth c (row_lt k2 c hc) (rows_apart k2 v2 (by decide) c hc)
    · have hi2 : i = ts.length := by
        have := (List.getElem?_eq_some_iff.1 a).1
        simp at this
        omega
      subst hi2
      rw [← v1] at b
      simp at a b
      subst a b
      exact OO.nil _ _
  · have side : ∀ (i : Nat) (v : Value), (vs ++ [Value.slice none 0 0])[i]? = some v → v.ownBlock = some b → vs[i]? = some v := fun i v e1 e2 => by
      by_cases hlt : i < vs.length
      · rwa [List.getElem?_append_left hlt] at e1
      · have hi2 : i = vs.length := by
          have := (List.getElem?_eq_some_iff.1 e1).1
          simp at this
          omega
        subst hi2
        simp at e1
        subst e1
        simp [Value.ownBlock] at e2
    exact v4 i j v v' b (side i v a1 a3) (side j v' a2 a4) a3 a4
/-- the last thread's row -/
theorem OS.last {Z wr : World} {tv pv : Value} {ts : List (List Opx)} {l : List Opx} {ps : List Int} (h : OS Z wr tv pv (ts ++ [l]) ps) : ∃ (gT cap : Nat) (v : Value) (ks : List Value), tv = .slice (some ⟨gT, 0, none⟩) (ts.length + 1) cap ∧ wr.cell? ⟨gT, ts.length, none⟩ = some v ∧ wr.frozen? ⟨gT, ts.length, none⟩ = false ∧ gT < wr.heap.size ∧ Mine wr gT ∧ ks.length = l.length ∧ wr.ownsRow 0 28 11 v l.length (opRows l ks) ∧ (∃ p c, v = .slice p l.length c) := by
  obtain ⟨vs, v1, v2, v3, v4⟩ := h.tr
  have hn : (ts ++ [l]).length = ts.length + 1 := by simp
  rw [hn] at v1 v2
  rcases v2.2 with ⟨_, e⟩ | ⟨gT, cap, cur, rfl, _⟩
  · omega
  · obtain ⟨v, hv⟩ : ∃ v, vs[ts.length]? = some v := ⟨_, List.getElem?_eq_getElem (by omega)⟩
    have hO := v3 ts.length l v (by simp) hv
    obtain ⟨p, c, hs⟩ := hO.slice
    obtain ⟨ks, k1, k2, k3, k4, k5⟩ := hO
    obtain ⟨q1, q2⟩ := mine_row v2 (.inr (.inl rfl)) (b := gT) rfl
    exact ⟨gT, cap, v, ks, rfl, by rw [World.ownsRow.cellAt v2 ts.length (by omega)]; exact hv, World.ownsRow.frozenAt v2 _, q1, q2, k1, k2, p, c, hs⟩
/-- an operation is added to the last thread -/
theorem OS.addO {Z wa w2 : World} {gT cap : Nat} {v v' kv pv : Value} {ts : List (List Opx)} {l : List Opx} {o : Opx} {ps : List Int} {ks : List Value} (h : OS Z wa (.slice (some ⟨gT, 0, none⟩) (ts.length + 1) cap) pv (ts ++ [l]) ps) (hZ : Z.heap.size ≤ wa.heap.size)
    (hv : wa.cell? ⟨gT, ts.length, none⟩ = some v) (hks : ks.length = l.length) (hrow : wa.ownsRow 0 28 11 v l.length (opRows l ks)) (hkv : ∃ kp kc, kv = .slice kp o.keys.length kc ∧ KU Z.heap.size kp o.keys wa)
    (hr : w2.ownsRow 0 28 11 v' (l.length + 1) (opRows l ks ++ opC o kv)) (hg : wa.grownBy w2 v.ownBlock) (hw : v'.ownBlock = v.ownBlock ∨ v'.ownBlock = some wa.heap.size) :
    OS Z (w2.setCell ⟨gT, ts.length, none⟩ v') (.slice (some ⟨gT, 0, none⟩) (ts.length + 1) cap) pv (ts ++ [l ++ [o]]) ps ∧ ChO Z wa (w2.setCell ⟨gT, ts.length, none⟩ v') ∧ w2.cell? ⟨gT, ts.length, none⟩ = some v ∧ w2.frozen? ⟨gT, ts.length, none⟩ = false := by
  obtain ⟨vs, v1, v2, v3, v4⟩ := h.tr
  have hn : ∀ l : List Opx, (ts ++ [l]).length = ts.length + 1 := fun l => by simp
  rw [hn] at v1 v2
  have hvs : vs[ts.length]? = some v := by
    have := World.ownsRow.cellAt v2 ts.length (by omega)
    rw [hv] at this
    exact this.symm
  have hO := v3 ts.length l v (by simp) hvs
  have hgT := row_block v2 gT rfl
  obtain ⟨curT, hcT⟩ := hgT
  have ltT := (Array.getElem?_eq_some_iff.1 hcT).1
  obtain ⟨pT, nT, cT, hzT⟩ := vs_head (ts := ts ++ [l]) (by simpa using v1) v3 (by simp)
  have fT : wa.cell? ⟨gT, 0, none⟩ = some (.slice pT nT cT) := row_first v2 hzT rfl
  have vb : ∀ b, v.ownBlock = some b → (∃ k : Int, wa.cell? ⟨b, 0, none⟩ = some (.int .u8 k)) ∧ (∃ cur, wa.heap[b]? = some (.cells cur 28 (0, 0))) ∧ Z.heap.size ≤ b := fun b hb => by
    obtain ⟨k, hk⟩ := hO.first hb
    obtain ⟨cur, hc⟩ := hO.blk hb
    obtain ⟨_, _, _, _, h4, _⟩ := hO
    exact ⟨⟨k, hk⟩, ⟨cur, hc⟩, h4 b hb⟩
  have neT : v.ownBlock ≠ some gT := fun e => by
    obtain ⟨k, hk⟩ := (vb gT e).1
    rw [fT] at hk
    cases hk
  have oth : ∀ b, b < wa.heap.size → v.ownBlock ≠ some b → w2.heap[b]? = wa.heap[b]? := fun b hb hne => hg.block b hb (fun e => hne e.symm)
  have hT2 := oth gT ltT neT
  have oth2 : ∀ b, b < wa.heap.size → v.ownBlock ≠ some b → b ≠ gT → (w2.setCell ⟨gT, ts.length, none⟩ v').heap[b]? = wa.heap[b]? := fun b hb hne hne2 => (Below.heap_setCell w2 ⟨gT, ts.length, none⟩ v' b hne2).trans (oth b hb hne)
  have szS : (w2.setCell ⟨gT, ts.length, none⟩ v').heap.size = w2.heap.size := by simp [World.setCell]
  have v2w : w2.ownsRow 0 75 1 (.slice (some ⟨gT, 0, none⟩) (ts.length + 1) cap) (ts.length + 1) vs := row_kept v2 fun b hb => by
    injection hb with hb
    subst hb
    exact hT2
  obtain ⟨st1, st2⟩ := World.ownsRow.stored v2w ts.length v'
  have ky : ∀ c, c < wa.heap.size → (∃ x : Int, wa.cell? ⟨c, 0, none⟩ = some (.int .u64 x)) → (w2.setCell ⟨gT, ts.length, none⟩ v').heap[c]? = wa.heap[c]? := fun c hc hx => by
    obtain ⟨x, hx⟩ := hx
    refine oth2 c hc (fun e => ?_) (fun e => ?_)
    · obtain ⟨k, hk⟩ := (vb c e).1
      rw [hx] at hk
      injection hk with hk
      injection hk with hk
      cases hk
    · subst e
      rw [fT] at hx
      cases hx
  have szA : wa.heap.size ≤ (w2.setCell ⟨gT, ts.length, none⟩ v').heap.size := by rw [szS]; exact hg.size
  refine ⟨⟨row_kept h.pr fun b hb => ?_, h.pb, h.p0, fun e => by simp at e, h.tb, ⟨vs.set ts.length v', by rw [List.length_set, v1, hn], by rw [hn]; simpa using st1, fun i l' u a b => ?_, fun i j u u' b a1 a2 a3 a4 => ?_⟩⟩, ⟨hg.os, hg.tape, hg.output, szA, fun i hi hno => ?_⟩, by rw [World.cell?_of_block (w := wa) hT2]; exact hv, World.ownsRow.frozenAt v2w _⟩
  · refine oth2 b (row_lt h.pr b hb) (fun e => ?_) (fun e => ?_)
    · obtain ⟨cur, hc⟩ := (vb b e).2.1
      exact block_apart h.pr hc (by decide) hb
    · subst e
      exact block_apart h.pr hcT (by decide) hb
  · by_cases hi : i = ts.length
    · subst hi
      rw [List.getElem?_set_self (by omega)] at b
      injection b with b
      subst b
      have hl' : l' = l ++ [o] := by simpa using a.symm
      subst hl'
      obtain ⟨kz, k1, k2, k3, k4, k5⟩ := hO
      have e0 : opRows l kz = opRows l ks := by
        have h1 := k2.2
        have h2 := hrow.2
        rcases h1 with ⟨e1, e2⟩ | ⟨g1, c1, u1, e1, _, b1, _, _, _, t1⟩
        · rw [List.length_eq_zero_iff.1 e2]; simp [opRows]
        · rcases h2 with ⟨e3, _⟩ | ⟨g2, c2, u2, e3, _, b2, _, _, _, t2⟩
          · rw [e1] at e3; cases e3
          · rw [e1] at e3
            injection e3 with e3
            injection e3 with e3
            injection e3 with e3
            subst e3
            rw [b1] at b2
            injection b2 with b2
            injection b2 with b2
            subst b2
            exact t1.symm.trans t2
      refine ⟨kz ++ [kv], by simp [k1], ?_, fun e => by simp at e, fun b hb => ?_, fun i x kx hx hkx => ?_⟩
      · rw [opRows_snoc l _ o kv k1, e0, List.length_append]
        exact row_kept hr fun b hb => Below.heap_setCell w2 ⟨gT, ts.length, none⟩ v' b (fun e => by
          have e : b = gT := e
          subst e
          rcases hw with e | e
          · rw [hb] at e; exact neT e.symm
          · rw [hb] at e; injection e with e; omega)
      · rcases hw with e | e
        · rw [e] at hb; exact (vb b hb).2.2
        · rw [e] at hb; injection hb with hb; omega
      · by_cases hi : i < l.length
        · rw [List.getElem?_append_left hi] at hx
          rw [List.getElem?_append_left (by omega)] at hkx
          obtain ⟨kp, kc, e, hK⟩ := k5 i x kx hx hkx
          exact ⟨kp, kc, e, hK.keep szA ky⟩
        · have hi2 : i = l.length := by
            have := (List.getElem?_eq_some_iff.1 hx).1
            simp at this
            omega
          subst hi2
          rw [← k1] at hkx
          simp at hx hkx
          subst hx hkx
          obtain ⟨kp, kc, e, hK⟩ := hkv
          exact ⟨kp, kc, e, hK.keep szA ky⟩
    · rw [List.getElem?_set_ne (Ne.symm hi)] at b
      have hi2 := (List.getElem?_eq_some_iff.1 a).1
      rw [hn] at hi2
      rw [List.getElem?_append_left (by omega)] at a
      have hU := v3 i l' u (by rw [List.getElem?_append_left (by omega)]; exact a) b
      refine hU.keep szA (fun c hc => ?_) ky
      obtain ⟨cur, hcu⟩ := hU.blk hc
      refine oth2 c (Array.getElem?_eq_some_iff.1 hcu).1 (fun e => hi (v4 i ts.length u v c b hvs hc e)) (fun e => ?_)
      subst e
      rw [hcT] at hcu
      injection hcu with hcu
      injection hcu with _ hcu
      exact absurd hcu (by decide)
  · have side : ∀ (i : Nat) (u : Value), (vs.set ts.length v')[i]? = some u → u.ownBlock = some b → (i ≠ ts.length ∧ vs[i]? = some u ∧ b < wa.heap.size) ∨ (i = ts.length ∧ u = v') := fun i u e1 e2 => by
      by_cases hi : i = ts.length
      · subst hi
        rw [List.getElem?_set_self (by omega)] at e1
        injection e1 with e1
        exact .inr ⟨rfl, e1.symm⟩
      · rw [List.getElem?_set_ne (Ne.symm hi)] at e1
        have hlt := (List.getElem?_eq_some_iff.1 e1).1
        obtain ⟨l', hl'⟩ : ∃ l', (ts ++ [l])[i]? = some l' := ⟨_, List.getElem?_eq_getElem (by rw [hn]; omega)⟩
        obtain ⟨cur, hcu⟩ := (v3 i l' u hl' e1).blk e2
        exact .inl ⟨hi, e1, (Array.getElem?_eq_some_iff.1 hcu).1⟩
    rcases side i u a1 a3 with ⟨i1, i2, i3⟩ | ⟨i1, i2⟩ <;> rcases side j u' a2 a4 with ⟨j1, j2, j3⟩ | ⟨j1, j2⟩
    · exact v4 i j u u' b i2 j2 a3 a4
    · exfalso
      subst j2
      rcases hw with e | e
      · rw [a4] at e
        exact i1 (v4 i ts.length u v b i2 hvs a3 e.symm)
      · rw [a4] at e
        injection e with e
        omega
    · exfalso
      subst i2
      rcases hw with e | e
      · rw [a3] at e
        exact j1 (v4 j ts.length u' v b j2 hvs a4 e.symm)
      · rw [a3] at e
        injection e with e
        omega
    · rw [i1, j1]
  · refine oth2 i hi (fun e => hno ?_) (fun e => hno ?_)
    · obtain ⟨⟨k, hk⟩, ⟨cur, hc⟩, hz⟩ := vb i e
      exact ⟨hz, ⟨cur, _, hc, .inr (.inr rfl)⟩, fun x hx => by
        rw [hk] at hx
        injection hx with hx
        injection hx with hx
        cases hx⟩
    · subst e
      exact own_row v2 (.inr (.inl rfl)) rfl (h.tb i rfl) hzT (fun y e => by cases e)
/-- what it reads as -/
theorem OO.ord {Z wr : World} {v : Value} {l : List Opx} (h : OO Z wr v l) : ∃ lp lc, v = .slice lp l.length lc ∧ ORd wr lp l := by
  obtain ⟨ks, h1, h2, h3, h4, h5⟩ := h
  have h2' := h2
  rcases h2.2 with ⟨hv, h0⟩ | ⟨g, cap, cur, hv, _⟩
  · exact ⟨none, 0, by rw [hv, h0], .inl (List.eq_nil_of_length_eq_zero h0)⟩
  · refine ⟨_, cap, hv, .inr ⟨g, 0, rfl, row_lt h2 g (by rw [hv]; rfl), fun i o ho => ?_⟩⟩
    have hi := (List.getElem?_eq_some_iff.1 ho).1
    obtain ⟨kv, hkv⟩ : ∃ kv, ks[i]? = some kv := ⟨_, List.getElem?_eq_getElem (by omega)⟩
    obtain ⟨kp, kc, rfl, hK⟩ := h5 i o kv ho hkv
    rw [hv] at h2'
    have hcell : ∀ q, q < 11 → wr.cell? ⟨g, 0 + i * 11 + q, none⟩ = (opC o (.slice kp o.keys.length kc))[q]? := fun q hq => by
      rw [Nat.zero_add, World.ownsRow.cellAt h2' (i * 11 + q) (by omega)]
      exact opRows_at l ks i q o _ ho hkv hq
    exact ⟨kp, kc, hK.krd, hcell 0 (by decide), hcell 1 (by decide), hcell 2 (by decide), hcell 3 (by decide), hcell 4 (by decide), hcell 5 (by decide), hcell 6 (by decide), hcell 7 (by decide), hcell 8 (by decide), hcell 9 (by decide), hcell 10 (by decide)⟩
theorem OS.reads {Z wr : World} {tv pv : Value} {ts : List (List Opx)} {ps : List Int} (h : OS Z wr tv pv ts ps) : ∃ tp tc pp pc, tv = .slice tp ts.length tc ∧ pv = .slice pp ps.length pc ∧ TRd wr tp ts ∧ IRd wr pp ps ∧ ps.length ≤ pc := by
  obtain ⟨vs, v1, v2, v3, v4⟩ := h.tr
  have a : ∃ tp tc, tv = .slice tp ts.length tc ∧ TRd wr tp ts := by
    have v2' := v2
    rcases v2.2 with ⟨hv, h0⟩ | ⟨g, cap, cur, hv, _⟩
    · exact ⟨none, 0, by rw [hv, h0], .inl (List.eq_nil_of_length_eq_zero h0)⟩
    · refine ⟨_, cap, hv, .inr ⟨g, 0, rfl, row_lt v2 g (by rw [hv]; rfl), fun i l hl => ?_⟩⟩
      have hi := (List.getElem?_eq_some_iff.1 hl).1
      obtain ⟨v, hvv⟩ : ∃ v, vs[i]? = some v := ⟨_, List.getElem?_eq_getElem (by omega)⟩
      obtain ⟨lp, lc, rfl, hO⟩ := (v3 i l v hl hvv).ord
      rw [hv] at v2'
      refine ⟨lp, lc, hO, ?_⟩
      rw [Nat.zero_add, World.ownsRow.cellAt v2' i (by omega)]
      exact hvv
  have b : ∃ pp pc, pv = .slice pp ps.length pc ∧ IRd wr pp ps ∧ ps.length ≤ pc := by
    have p2 := h.pr
    rcases h.pr.2 with ⟨hv, h0⟩ | ⟨g, cap, cur, hv, _, _, hle, _⟩
    · exact ⟨none, 0, by rw [hv, h0], .inl (List.eq_nil_of_length_eq_zero h0), by omega⟩
    · refine ⟨_, cap, hv, .inr ⟨g, 0, rfl, row_lt h.pr g (by rw [hv]; rfl), fun i x hx => ?_⟩, hle⟩
      rw [hv] at p2
      have hi := (List.getElem?_eq_some_iff.1 hx).1
      rw [Nat.zero_add, World.ownsRow.cellAt p2 i (by omega), iRow, List.getElem?_map, hx]
      rfl
  obtain ⟨tp, tc, e1, h1⟩ := a
  obtain ⟨pp, pc, e2, h2, h3⟩ := b
  exact ⟨tp, tc, pp, pc, e1, e2, h1, h2, h3⟩
theorem app_rowI (W : World) (pv sv : Value) (ps l : List Int) (hp : W.ownsRow 0 3 1 pv ps.length (iRow ps)) (hs : W.ownsRow 0 3 1 sv l.length (iRow l)) (h1 : ps.length ≤ 10000000) (h2 : l.length ≤ 20) (h0 : l ≠ []) (ty : TypeId) : ∃ v' W', (Builtin.append_ #[44, 44] ty #[pv, sv]).run Tryz.prog W = .ok v' W' ∧ W'.ownsRow 0 3 1 v' (ps.length + l.length) (iRow ps ++ iRow l) ∧ W.grownBy W' pv.ownBlock ∧ (v'.ownBlock = pv.ownBlock ∨ v'.ownBlock = some W.heap.size) := by
  obtain ⟨i0, hi, hz0, hz1, hz2⟩ := info_parts infoInt
  rcases hs.2 with ⟨_, e⟩ | ⟨g, cap, cur, rfl, _⟩
  · exact absurd (List.eq_nil_of_length_eq_zero e) h0
  · obtain ⟨v', w', hr, k2, k3, k4, k5⟩ := run_append_own_at (P := Tryz.prog) W 0 44 ty 3 i0 (.int .i64 0) 1 8 Tryz.underlying44 hi hz0 hz1 hz2 rfl (by decide) pv ps.length (iRow ps) hp ⟨g, 0, none⟩ l.length cap (iRow l) (by simp [iRow]) (fun j u hj => hs.cells (g := g) rfl j u hj) (by intro u hu; unfold iRow at hu; obtain ⟨x, _, rfl⟩ := List.mem_map.1 hu; rfl) (by unfold maxLen; omega) (by omega) (Nat.zero_le _)
    exact ⟨v', w', hr, k2, k3, k5⟩
theorem app_rowT (W : World) (tv : Value) (b : Nat) (ts : List (List Opx)) (vs : List Value) (hp : W.ownsRow 0 75 1 tv ts.length vs) (h1 : ts.length ≤ 10000000) (hb : W.heap[b]? = some (.cells #[.slice none 0 0] 75 (0, 0))) (ty : TypeId) : ∃ v' W', (Builtin.append_ #[43, 43] ty #[tv, .slice (some ⟨b, 0, none⟩) 1 1]).run Tryz.prog W = .ok v' W' ∧ W'.ownsRow 0 75 1 v' (ts.length + 1) (vs ++ [.slice none 0 0]) ∧ W.grownBy W' tv.ownBlock ∧ (v'.ownBlock = tv.ownBlock ∨ v'.ownBlock = some W.heap.size) := by
  obtain ⟨i0, hi, hz0, hz1, hz2⟩ := info_parts infoOps
  obtain ⟨v', w', hr, k2, k3, k4, k5⟩ := run_append_own_at (P := Tryz.prog) W 0 43 ty 75 i0 (.slice none 0 0) 1 24 Tryz.underlying43 hi hz0 hz1 hz2 rfl (by decide) tv ts.length vs hp ⟨b, 0, none⟩ 1 1 [.slice none 0 0] rfl (fun j u hj => by
    have hlt := (List.getElem?_eq_some_iff.1 hj).1
    have hj0 : j = 0 := by simp at hlt; exact hlt
    subst hj0
    rw [Addr.add_mid, cell_of hb]
    simpa using hj) (by intro u hu; simp at hu; subst hu; rfl) (by unfold maxLen; omega) (by omega) (Nat.zero_le _)
  exact ⟨v', w', hr, k2, k3, k5⟩
theorem app_rowO (W : World) (v : Value) (b : Nat) (l : List Opx) (ks : List Value) (o : Opx) (kv : Value) (hp : W.ownsRow 0 28 11 v l.length (opRows l ks)) (h1 : l.length ≤ 10000000) (hb : W.heap[b]? = some (.cells (opR o.k o.key o.val o.old o.hnd o.set o.rt o.ri kv o.lo o.hi) 28 (0, 0))) (hk : kv.oneCell' = true) (ty : TypeId) : ∃ v' W', (Builtin.append_ #[75, 75] ty #[v, .slice (some ⟨b, 0, none⟩) 1 1]).run Tryz.prog W = .ok v' W' ∧ W'.ownsRow 0 28 11 v' (l.length + 1) (opRows l ks ++ opC o kv) ∧ W.grownBy W' v.ownBlock ∧ (v'.ownBlock = v.ownBlock ∨ v'.ownBlock = some W.heap.size) := by
  obtain ⟨i0, hi, hz0, hz1, hz2⟩ := info_parts infoOp
  obtain ⟨v', w', hr, k2, k3, k4, k5⟩ := run_append_own_at (P := Tryz.prog) W 0 75 ty 28 i0 _ 11 104 Tryz.underlying75 hi hz0 hz1 hz2 rfl (by decide) v l.length (opRows l ks) hp ⟨b, 0, none⟩ 1 1 (opC o kv) rfl (fun j u hj => by
    rw [Addr.add_mid, cell_of hb]
    simpa [opC] using hj) (by intro u hu; simp [opC] at hu; rcases hu with rfl | rfl | rfl | rfl | rfl | rfl | rfl | rfl | rfl | rfl | rfl <;> first | rfl | exact hk) (by unfold maxLen; omega) (by omega) (Nat.zero_le _)
  exact ⟨v', w', hr, k2, k3, k5⟩
end Go.Proofs.YtmmaniolaljjlaaGreatDoor
/- What has been read of a script's text is right, and not longer than the text: what is pure. -/
namespace Go.Proofs.YtmmaniolaljjlaaGreatDoor
open Go.RowKit Go.Shelf
set_option linter.unusedVariables false

structure GoodR (x : Rdg) : Prop where
  ce : isI x.ce
  sl : isI x.sl
  stp : isU x.stp
  mu : isI x.mu
  cfg : cfgE x.ce x.sl x.stp x.mu = 0
  op : ∀ l ∈ x.ts, ∀ o ∈ l, rightO o
  pk : ∀ z ∈ x.ps, isI z
def GoodS (s : Option Rdg) : Prop := ∀ x, s = some x → GoodR x
theorem goes_good {s : Option Rdg} {line : List UInt8} {x : Rdg} (h : Goes1 s line x) (hs : GoodS s) : GoodR x := by
  cases h with
  | cfg ce sl stp mu a b c d e => exact ⟨a, b, c, d, e, fun l hl => by simp at hl, fun z hz => by simp at hz⟩
  | thr ce sl stp mu ts =>
    have g := hs _ rfl
    refine ⟨g.ce, g.sl, g.stp, g.mu, g.cfg, fun l hl o ho => ?_, g.pk⟩
    rcases List.mem_append.1 hl with hl | hl
    · exact g.op l hl o ho
    · simp at hl; subst hl; simp at ho
  | op ce sl stp mu ts l o hr =>
    have g := hs _ rfl
    refine ⟨g.ce, g.sl, g.stp, g.mu, g.cfg, fun l' hl o' ho => ?_, g.pk⟩
    rcases List.mem_append.1 hl with hl | hl
    · exact g.op l' (by simp [hl]) o' ho
    · simp at hl
      subst hl
      rcases List.mem_append.1 ho with ho | ho
      · exact g.op l (by simp) o' ho
      · simp at ho; subst ho; exact hr
  | pk ce sl stp mu ts ps l a b c d =>
    have g := hs _ rfl
    refine ⟨g.ce, g.sl, g.stp, g.mu, g.cfg, g.op, fun z hz => ?_⟩
    rcases List.mem_append.1 hz with hz | hz
    · exact g.pk z hz
    · exact d z hz
theorem rd_good {s z : Option Rdg} {ls : List (List UInt8)} (h : RdAll s ls z) (hs : GoodS s) : GoodS z := by
  induction h with
  | nil s => exact hs
  | cons s line x ls z hg hr ih => exact ih (fun y e => by injection e with e; subst e; exact goes_good hg hs)
theorem rd_good0 {x : Rdg} {ls : List (List UInt8)} (h : RdAll none ls (some x)) : GoodR x := rd_good h (fun x e => by cases e) x rfl
def msr (x : Rdg) : Nat := x.ts.length + (x.ts.map List.length).sum + x.ps.length
def msS : Option Rdg → Nat
  | none => 0
  | some x => msr x
theorem pkT_long (l : List Int) : l.length ≤ (pkT l).length := by
  have h := (split_len (pkT l)).1
  rw [pkT_split] at h
  simp [pkL] at h
  exact h
theorem goes_msr {s : Option Rdg} {line : List UInt8} {x : Rdg} (h : Goes1 s line x) : msr x ≤ msS s + line.length + 1 := by
  cases h with
  | cfg ce sl stp mu a b c d e => simp [msr]
  | thr ce sl stp mu ts => simp [msr, msS]; omega
  | op ce sl stp mu ts l o hr => simp [msr, msS]; omega
  | pk ce sl stp mu ts ps l a b c d =>
    have := pkT_long l
    simp [msr, msS]
    omega
theorem rd_msr {s z : Option Rdg} {ls : List (List UInt8)} (h : RdAll s ls z) : msS z ≤ msS s + (joinL ls).length := by
  induction h with
  | nil s => omega
  | cons s line x ls z hg hr ih =>
    have h1 := goes_msr hg
    have h2 : msS (some x) = msr x := rfl
    rw [joinL_cons]
    simp
    omega
theorem sum_mem {l : List Opx} {ts : List (List Opx)} (h : l ∈ ts) : l.length ≤ (ts.map List.length).sum := by
  induction ts with
  | nil => simp at h
  | cons a ts ih =>
    simp
    rcases List.mem_cons.1 h with rfl | h
    · omega
    · have := ih h
      omega
theorem sok_of {x : Rdg} (g : GoodR x) (h : msr x ≤ 10000000) : SOk x.ts x.ps := by
  unfold msr at h
  refine ⟨by omega, by omega, fun l hl => ?_, fun l hl o ho => ?_, g.pk⟩
  · have := sum_mem hl
    omega
  · have hr := g.op l hl o ho
    have hp := right_parts hr
    refine ⟨hr.1, ?_⟩
    cases hk : kysK o.k with
    | true => have := hp.kys hk; omega
    | false => rw [hp.nokys hk]; simp
theorem rt_of {x : Rdg} (g : GoodR x) : rtS x.ce x.sl x.stp x.mu x.ts x.ps = if longT x.ts x.ps then 6 else 0 := by
  by_cases h : longT x.ts x.ps
  · rw [if_pos h, rtS_long g.cfg (.inl h)]
  · rw [if_neg h]
    refine rtS_ok g.cfg (fun e => ?_) (fun e => ?_) (fun e => ?_)
    · rcases e with e | ⟨l, hl, o, ho, e1, e2⟩
      · exact h e
      · have := (right_parts (g.op l hl o ho)).kys (by unfold kysK; simp [e1])
        omega
    · obtain ⟨l, hl, o, ho, e⟩ := e
      have := (g.op l hl o ho).2
      exact absurd (e.symm.trans this) (by decide)
    · obtain ⟨l, hl, o, ho, e⟩ := e
      have := (g.op l hl o ho).2
      exact absurd (e.symm.trans this) (by decide)
end Go.Proofs.YtmmaniolaljjlaaGreatDoor
/- The picks of a line, by the document. -/
namespace Go.Proofs.YtmmaniolaljjlaaGreatDoor
open Go.RowKit Go.Shelf
set_option linter.unusedVariables false

def AtsQ (fs : List (List UInt8)) (l : List Int) : Prop := l.length = fs.length ∧ (∀ z ∈ l, isI z) ∧ ∀ (i : Nat) (f : List UInt8) (x z : Int), fs[i]? = some f → l[i]? = some x → Lib.atoiAll f = .ok z → x = z
theorem AtsQ.more {fs : List (List UInt8)} {l : List Int} {i : Nat} {f : List UInt8} {x : Int} (h : AtsQ (fs.take i) l) (hf : fs[i]? = some f) (hx : isI x) (hz : ∀ z, Lib.atoiAll f = .ok z → x = z) : AtsQ (fs.take (i + 1)) (l ++ [x]) := by
  have hi := (List.getElem?_eq_some_iff.1 hf).1
  have hl : l.length = i := by rw [h.1, List.length_take]; omega
  refine ⟨by rw [List.length_append, h.1, List.take_add_one, hf]; simp, fun z hz' => ?_, fun j f' y z h1 h2 h3 => ?_⟩
  · rcases List.mem_append.1 hz' with h' | h'
    · exact h.2.1 z h'
    · simp at h'; subst h'; exact hx
  · rw [List.take_add_one, hf] at h1
    have hil : (fs.take i).length = i := by rw [← h.1, hl]
    by_cases hj : j < i
    · rw [List.getElem?_append_left (by omega)] at h1
      rw [List.getElem?_append_left (by omega)] at h2
      exact h.2.2 j f' y z h1 h2 h3
    · rw [List.getElem?_append_right (by omega), hil] at h1
      rw [List.getElem?_append_right (by omega), hl] at h2
      have hj0 : j - i = 0 := by
        have := (List.getElem?_eq_some_iff.1 h2).1
        simp at this
        exact this
      rw [hj0] at h1 h2
      simp at h1 h2
      subst h1 h2
      exact hz z h3
theorem AtsQ.itoa {l l' : List Int} (h : AtsQ (l'.map Lib.itoa) l) (h' : ∀ z ∈ l', isI z) : l = l' := by
  apply List.ext_getElem
  · rw [h.1, List.length_map]
  · intro i h1 h2
    have hz := h' _ (List.getElem_mem h2)
    exact h.2.2 i _ _ _ (by rw [List.getElem?_map, List.getElem?_eq_getElem h2]; rfl) (List.getElem?_eq_getElem h1) (atoi_itoa _ hz.1 hz.2)
theorem stz_form {W X : World} {l : List Int} {v : Value} (h : StZ W l v X) : ∃ lp lc, v = .slice lp l.length lc ∧ IRd X lp l := by
  have hl := fun k hk => row_lt h.row k hk
  have hc := fun g (hg : v.ownBlock = some g) => h.row.cells (g := g) hg
  rcases h.row.2 with ⟨hv, h0⟩ | ⟨g, cap, cur, hv, _⟩
  · exact ⟨none, 0, by rw [hv, h0], .inl (List.eq_nil_of_length_eq_zero h0)⟩
  · refine ⟨_, cap, hv, .inr ⟨g, 0, rfl, hl g (by rw [hv]; rfl), fun i x hx => ?_⟩⟩
    have := hc g (by rw [hv]; rfl) i (.int .i64 x) (by unfold zRow; rw [List.getElem?_map, hx]; rfl)
    rw [Addr.add_mid] at this
    exact this
end Go.Proofs.YtmmaniolaljjlaaGreatDoor
/- ParseOp, by the program. (mkScs.py) -/
namespace Go.Proofs.YtmmaniolaljjlaaGreatDoor
open Go.RowKit Go.Shelf
set_option linter.unusedVariables false

def PoQ (W : World) (t : List UInt8) (e : Ending) (W' : World) : Prop := ∃ ok o kp kc, e = .returned (.tuple #[.agg (opV o kp kc), .int .i64 (if ok = true then 0 else 52)]) ∧ PQ t ok o ∧ KU W.heap.size kp o.keys W' ∧ (ok = false → o = zeroO) ∧ Below W.heap.size W W'
theorem KU.on {B : Nat} {lp : Option Addr} {us : List Nat} {X Y : World} (h : KU B lp us X) (hb : Below X.heap.size X Y) : KU B lp us Y := by
  rcases h with h | ⟨g, h1, h2, h3, h4⟩
  · exact .inl h
  · exact .inr ⟨g, h1, h2, Nat.lt_of_lt_of_le h3 hb.size, fun i x hx => cell_below (h4 i x hx) hb⟩
set_option maxRecDepth 100000 in
set_option maxHeartbeats 4000000 in
theorem parseOp_any (t : List UInt8) (ht : t.length ≤ 5000000) (W : World) (hW : Wd W) (T : Tb W) :
    Calls Tryz.prog 9 #[.string (mkS t)] W (PoQ W t) := by
  obtain ⟨w1, hw1⟩ : ∃ w1, w1 = W.alloc (.cells (opR 0 0 0 0 0 false 0 0 (.slice none 0 0) 0 0) 28) := ⟨_, rfl⟩
  obtain ⟨R, hR⟩ : ∃ R, R = W.heap.size := ⟨_, rfl⟩
  have B1 : Below W.heap.size W w1 := by rw [hw1]; exact below_alloc _ _
  have X1 : w1.heap[R]? = some (.cells (opR 0 0 0 0 0 false 0 0 (.slice none 0 0) 0 0) 28 (0, 0)) := by rw [hw1, hR]; exact heap_alloc_new _ _
  have HPA := keepH (fun b w (hV : IsVoc w b) (hb : Below W.heap.size W w) => parse_any b t ht w hV (hW.on hb) (T.on hb))
  have HW1 := keepH hw1
  have HR := keepH hR
  have HB1 := keepH B1
  have HX1 := keepH X1
  obtain ⟨s, hs⟩ : ∃ s, s = mkS t := ⟨_, rfl⟩
  rw [← hs] at HPA ⊢
  clear hw1 hR B1 X1 hW T hs ht
  go_enter Tryz.func9, Tryz.ntmps9
  go_upto_region 1 with fail
  rw [show W.alloc (.cells #[.int .u8 0, .int .u64 0, .int .u64 0, .int .u64 0, .int .u64 0, .bool false, .int .i64 0, .int .i64 0, .slice none 0 0, .int .u64 0, .int .u64 0] 28) = w1 from HW1.out.symm, ← HR.out]
  go_wp2_with fail
  refine (voc_new w1).mono ?_
  rintro e w2 ⟨rfl, hV, B2⟩
  have HX2 := keepH (heap_below HX1.out B2)
  have HB2 := keepH (below_chain HB1.out B2)
  have HQ := keepH (HPA.out w1.heap.size w2 hV HB2.out)
  have HRL : Hid (R < w2.heap.size) := keepH (Array.getElem?_eq_some_iff.1 HX2.out).1
  obtain ⟨b, hbb⟩ : ∃ b, b = w1.heap.size := ⟨_, rfl⟩
  rw [← hbb] at HQ ⊢
  clear hV B2 hbb
  go_wp2_with fail
  refine HQ.out.mono ?_
  rintro e w3 ⟨ok, o, kp, kc, rfl, hpq, hku, hzo, B3⟩
  have HX3 := keepH (heap_below HX2.out B3)
  have HB3 := keepH (below_chain HB2.out B3)
  have HPQ := keepH hpq
  have HKU := keepH hku
  have HZO := keepH hzo
  clear hpq hku hzo B3
  obtain ⟨k, key, val, old, hnd, set, rt, ri, keys, lo, hi⟩ := o
  simp only [opV]
  obtain ⟨n, hn⟩ : ∃ n, n = keys.length := ⟨_, rfl⟩
  rw [← hn]
  have HN := keepH hn
  obtain ⟨w4, hw4⟩ : ∃ w4, w4 = w3.alloc (.cells (opR k key val old hnd set rt ri (.slice kp n kc) lo hi) 28) := ⟨_, rfl⟩
  obtain ⟨Q, hQ⟩ : ∃ Q, Q = w3.heap.size := ⟨_, rfl⟩
  have B4 : Below w3.heap.size w3 w4 := by rw [hw4]; exact below_alloc _ _
  have X4 : w4.heap[Q]? = some (.cells (opR k key val old hnd set rt ri (.slice kp n kc) lo hi) 28 (0, 0)) := by rw [hw4, hQ]; exact heap_alloc_new _ _
  have HX4 := keepH (heap_below HX3.out B4)
  have HB4 := keepH (below_chain HB3.out B4)
  have HK4 := keepH (HKU.out.on B4)
  have HQ4 := keepH X4
  have HW4 := keepH hw4
  have HQQ := keepH hQ
  have HLR : Hid (W.heap.size ≤ R) := keepH (by rw [HR.out]; exact Nat.le_refl _)
  clear hn hw4 hQ B4 X4
  go_upto_region 2 with fail
  rw [← HW4.out, ← HQQ.out]
  cases ok with
  | false =>
    have hz := HZO.out rfl
    have HPZ := keepH HPQ.out
    rw [hz] at HPZ
    clear hz
    go_wp2_with (first | (refine wpList_store_row rfl 28 _ _ rfl R (opR 0 0 0 0 0 false 0 0 (.slice none 0 0) 0 0) rfl rfl 28 (opR 0 0 0 0 0 false 0 0 (.slice none 0 0) 0 0) HX4.out (by kernel_rfl) rfl (by simp [Value.oneCell']) ?_) | fail)
    have hrow := setRow_heap _ R _ (opR 0 0 0 0 0 false 0 0 (.slice none 0 0) 0 0) 28 (0, 0) HX4.out
    have e0 := cell_of hrow 0
    have e1 := cell_of hrow 1
    have e2 := cell_of hrow 2
    have e3 := cell_of hrow 3
    have e4 := cell_of hrow 4
    have e5 := cell_of hrow 5
    have e6 := cell_of hrow 6
    have e7 := cell_of hrow 7
    have e8 := cell_of hrow 8
    have e9 := cell_of hrow 9
    have e10 := cell_of hrow 10
    simp at e0 e1 e2 e3 e4 e5 e6 e7 e8 e9 e10
    refine bodyPost_ret (v := .tuple #[.agg (opR 0 0 0 0 0 false 0 0 (.slice none 0 0) 0 0), .int .i64 52]) (by simp [results, Tryz.results9, go_sem, e0, e1, e2, e3, e4, e5, e6, e7, e8, e9, e10]) rfl ?_
    exact ⟨false, zeroO, none, 0, rfl, HPZ.out, .inl rfl, fun _ => rfl, below_setRow HB4.out HLR.out _⟩
  | true =>
    have d0 : w4.cell? ⟨Q, 0, none⟩ = _ := cell_of HQ4.out 0
    have d1 : w4.cell? ⟨Q, 1, none⟩ = _ := cell_of HQ4.out 1
    have d2 : w4.cell? ⟨Q, 2, none⟩ = _ := cell_of HQ4.out 2
    have d3 : w4.cell? ⟨Q, 3, none⟩ = _ := cell_of HQ4.out 3
    have d4 : w4.cell? ⟨Q, 4, none⟩ = _ := cell_of HQ4.out 4
    have d5 : w4.cell? ⟨Q, 5, none⟩ = _ := cell_of HQ4.out 5
    have d6 : w4.cell? ⟨Q, 6, none⟩ = _ := cell_of HQ4.out 6
    have d7 : w4.cell? ⟨Q, 7, none⟩ = _ := cell_of HQ4.out 7
    have d8 : w4.cell? ⟨Q, 8, none⟩ = _ := cell_of HQ4.out 8
    have d9 : w4.cell? ⟨Q, 9, none⟩ = _ := cell_of HQ4.out 9
    have d10 : w4.cell? ⟨Q, 10, none⟩ = _ := cell_of HQ4.out 10
    go_wp2_with (first | (refine wpList_store_row rfl 28 _ _ rfl R (opR k key val old hnd set rt ri (.slice kp n kc) lo hi) rfl rfl 28 (opR 0 0 0 0 0 false 0 0 (.slice none 0 0) 0 0) HX4.out (by kernel_rfl) rfl (by simp [Value.oneCell']) ?_) | fail)
    have hrow := setRow_heap _ R _ (opR k key val old hnd set rt ri (.slice kp n kc) lo hi) 28 (0, 0) HX4.out
    have e0 := cell_of hrow 0
    have e1 := cell_of hrow 1
    have e2 := cell_of hrow 2
    have e3 := cell_of hrow 3
    have e4 := cell_of hrow 4
    have e5 := cell_of hrow 5
    have e6 := cell_of hrow 6
    have e7 := cell_of hrow 7
    have e8 := cell_of hrow 8
    have e9 := cell_of hrow 9
    have e10 := cell_of hrow 10
    simp at e0 e1 e2 e3 e4 e5 e6 e7 e8 e9 e10
    refine bodyPost_ret (v := .tuple #[.agg (opR k key val old hnd set rt ri (.slice kp n kc) lo hi), .int .i64 0]) (by simp [results, Tryz.results9, go_sem, e0, e1, e2, e3, e4, e5, e6, e7, e8, e9, e10]) rfl ?_
    exact ⟨true, ⟨k, key, val, old, hnd, set, rt, ri, keys, lo, hi⟩, kp, kc, by rw [HN.out]; rfl, HPQ.out, (HK4.out.row HRL.out _).mono HB2.out.size, fun e => by simp at e, below_setRow HB4.out HLR.out _⟩
end Go.Proofs.YtmmaniolaljjlaaGreatDoor
/- An operation that is read, by the document: what lies in memory; pure facts. -/
namespace Go.Proofs.YtmmaniolaljjlaaGreatDoor
open Go.RowKit Go.Shelf
set_option linter.unusedVariables false

theorem RF.row {W : World} {P R : Nat} {row : Array Value} {wr : World} (h : RF W P R row wr) (cs : Array Value) : RF W P R cs (wr.setRow P cs) := ⟨setRow_heap _ _ _ _ _ _ h.bx, (setRow_other _ _ _ _ h.ne).trans h.rr, below_setRow h.bel h.lp _, h.lp, h.lr, h.ne⟩
structure DP (W : World) (P R : Nat) (row : Array Value) (sb so : Nat) (fs : List (List UInt8)) (wr : World) : Prop where
  rf : RF W P R row wr
  sl : sb < wr.heap.size
  st : ∀ (i : Nat) (f : List UInt8), fs[i]? = some f → wr.cell? ⟨sb, so + i, none⟩ = some (.string (mkS f))
  ns : sb ≠ P
theorem DP.on {W : World} {P R : Nat} {row : Array Value} {sb so : Nat} {fs : List (List UInt8)} {wr X : World} (h : DP W P R row sb so fs wr) (hb : Below wr.heap.size wr X) : DP W P R row sb so fs X :=
  ⟨h.rf.on hb, Nat.lt_of_lt_of_le h.sl hb.size, fun i f hf => by
    rw [World.cell?_of_block (w := wr) (hb.block sb h.sl)]
    exact h.st i f hf, h.ns⟩
theorem DP.set {W : World} {P R : Nat} {row : Array Value} {sb so : Nat} {fs : List (List UInt8)} {wr : World} (h : DP W P R row sb so fs wr) (i : Nat) (v : Value) : DP W P R (row.setIfInBounds i v) sb so fs (wr.setCell ⟨P, i, none⟩ v) :=
  ⟨h.rf.set i v, by simpa using h.sl, fun j f hf => by
    rw [World.cell?_of_block (w := wr) (Below.heap_setCell _ _ _ _ h.ns)]
    exact h.st j f hf, h.ns⟩
theorem DP.row {W : World} {P R : Nat} {row : Array Value} {sb so : Nat} {fs : List (List UInt8)} {wr : World} (h : DP W P R row sb so fs wr) (cs : Array Value) : DP W P R cs sb so fs (wr.setRow P cs) := by
  have hbl := setRow_other wr P sb cs h.ns
  refine ⟨h.rf.row cs, ?_, fun j f hf => ?_, h.ns⟩
  · obtain ⟨o, ho⟩ : ∃ o, wr.heap[sb]? = some o := ⟨_, Array.getElem?_eq_getElem h.sl⟩
    exact (Array.getElem?_eq_some_iff.1 (hbl.trans ho)).1
  · rw [World.cell?_of_block (w := wr) hbl]
    exact h.st j f hf
theorem DP.cut {W : World} {P R : Nat} {row : Array Value} {sb so so' : Nat} {f : List UInt8} {fs : List (List UInt8)} {wr : World} (h : DP W P R row sb so (f :: fs) wr) (e : 0 < fs.length → so' = so + 1) : DP W P R row sb so' fs wr :=
  ⟨h.rf, h.sl, fun i x hx => by
    have hl : 0 < fs.length := by
      have := (List.getElem?_eq_some_iff.1 hx).1
      omega
    have := h.st (i + 1) x (by simpa using hx)
    rw [e hl, Nat.add_assoc, Nat.add_comm 1 i]
    exact this, h.ns⟩
theorem DP.srd {W : World} {P R : Nat} {row : Array Value} {sb so : Nat} {fs : List (List UInt8)} {wr : World} (h : DP W P R row sb so fs wr) : SRd wr (some ⟨sb, so, none⟩) fs := .inr ⟨sb, so, rfl, h.sl, h.st⟩
theorem KU.set {B P : Nat} {lp : Option Addr} {us : List Nat} {X : World} (h : KU B lp us X) (hP : P < B) (i : Nat) (v : Value) : KU B lp us (X.setCell ⟨P, i, none⟩ v) := by
  rcases h with h | ⟨g, h1, h2, h3, h4⟩
  · exact .inl h
  · refine .inr ⟨g, h1, h2, by simpa using h3, fun j x hx => ?_⟩
    rw [World.cell?_of_block (w := X) (Below.heap_setCell _ _ _ _ (by show g ≠ P; omega))]
    exact h4 j x hx
theorem isU0 : isU 0 := by unfold isU; omega
def KI (f0 : List UInt8) (i kk : Nat) : Prop := ∀ j, 1 ≤ j → j < i → opW j = f0 → kk = j
theorem KI.no {f0 : List UInt8} {i kk : Nat} (h : KI f0 i kk) (e : ¬ opW i = f0) : KI f0 (i + 1) kk := fun j h1 h2 h3 => by
  by_cases hj : j = i
  · subst hj; exact absurd h3 e
  · exact h j h1 (by omega) h3
end Go.Proofs.YtmmaniolaljjlaaGreatDoor
/- A line behind others, by the document. (mkSfg.py) -/
namespace Go.Proofs.YtmmaniolaljjlaaGreatDoor
open Go.RowKit Go.Shelf Go.Maps
set_option linter.unusedVariables false

theorem goes_inv {ce sl : Int} {stp : Nat} {mu : Int} {ts : List (List Opx)} {ps : List Int} {t : List UInt8} {x : Rdg} (h : Goes1 (some ⟨ce, sl, stp, mu, ts, ps⟩) t x) : (t = thW ∧ ps = []) ∨ (∃ o, rightO o ∧ t = textO o ∧ ps = [] ∧ ts ≠ []) ∨ (∃ l, t = pkT l ∧ ps.length % 20 = 0 ∧ 1 ≤ l.length ∧ l.length ≤ 20 ∧ ∀ z ∈ l, isI z) := by
  generalize hs : some (Rdg.mk ce sl stp mu ts ps) = s at h
  cases h with
  | cfg => cases hs
  | thr => injection hs with hs; injection hs with _ _ _ _ _ e; exact .inl ⟨rfl, e⟩
  | op a b c d ts' l o ho => injection hs with hs; injection hs with _ _ _ _ e1 e; exact .inr (.inl ⟨o, ho, rfl, e, by rw [e1]; simp⟩)
  | pk a b c d ts' ps' l h1 h2 h3 h4 => injection hs with hs; injection hs with _ _ _ _ e1 e; subst e; exact .inr (.inr ⟨l, rfl, h1, h2, h3, h4⟩)
theorem ChO.setNew {Z X wr : World} (h : ChO Z X wr) {P : Nat} (hP : X.heap.size ≤ P) (i : Nat) (v : Value) : ChO Z X (wr.setCell ⟨P, i, none⟩ v) := Chg.setCell h (p := ⟨P, i, none⟩) (fun e => by have e : P < X.heap.size := e; omega) v
/-- while a line is taken in by the document -/
structure GS (Z X : World) (P R : Nat) (ce sl : Int) (stp : Nat) (mu : Int) (tb pb : Value) (rr : Array Value) (tv pv : Value) (ts : List (List Opx)) (ps : List Int) (wr : World) : Prop where
  os : OS Z wr tv pv ts ps
  ch : ChO Z X wr
  bx : wr.heap[P]? = some (.cells (scR ce sl stp mu tb pb) 46 (0, 0))
  rx : wr.heap[R]? = some (.cells rr 46 (0, 0))
  r0 : ∃ z, rr[0]? = some (.int .i64 z)
  lP : X.heap.size ≤ P
  lR : X.heap.size ≤ R
  ne : P ≠ R
  sz : Z.heap.size ≤ X.heap.size
theorem nrow : ¬ rowTy 46 := by unfold rowTy; decide
theorem i0 {row : Array Value} (h : ∃ z, row[0]? = some (.int .i64 z)) : ∀ x, row[0]? ≠ some (.int .u64 x) := fun x e => by
  obtain ⟨z, hz⟩ := h
  rw [hz] at e
  injection e with e
  cases e
theorem GS.on {Z X : World} {P R : Nat} {ce sl : Int} {stp : Nat} {mu : Int} {tb pb : Value} {rr : Array Value} {tv pv : Value} {ts : List (List Opx)} {ps : List Int} {wr Y : World} (h : GS Z X P R ce sl stp mu tb pb rr tv pv ts ps wr) (hb : Below wr.heap.size wr Y) : GS Z X P R ce sl stp mu tb pb rr tv pv ts ps Y :=
  ⟨h.os.on hb, h.ch.trans (ChO.of Z hb), heap_below h.bx hb, heap_below h.rx hb, h.r0, h.lP, h.lR, h.ne, h.sz⟩
theorem GS.row {Z X : World} {P R : Nat} {ce sl : Int} {stp : Nat} {mu : Int} {tb pb : Value} {rr : Array Value} {tv pv : Value} {ts : List (List Opx)} {ps : List Int} {wr : World} (h : GS Z X P R ce sl stp mu tb pb rr tv pv ts ps wr) (cs : Array Value) (hc : ∃ z, cs[0]? = some (.int .i64 z)) : GS Z X P R ce sl stp mu tb pb cs tv pv ts ps (wr.setRow R cs) := by
  refine ⟨h.os.keep (KpM.at (P := R) ⟨rfl, rfl, rfl, by simp, fun b hb hn => setRow_other _ _ _ _ hn⟩ h.rx nrow (i0 h.r0)), ⟨h.ch.os, h.ch.tape, h.ch.output, by simpa using h.ch.size, fun i hi hn => ?_⟩, (setRow_other _ _ _ _ h.ne).trans h.bx, setRow_heap _ _ _ _ _ _ h.rx, hc, h.lP, h.lR, h.ne, h.sz⟩
  have := h.lR
  exact (setRow_other _ _ _ _ (by omega)).trans (h.ch.block i hi hn)
/-- the rows have been grown, and are named in the box -/
theorem GS.put {Z X : World} {P R : Nat} {ce sl : Int} {stp : Nat} {mu : Int} {tb pb : Value} {rr : Array Value} {tv pv tv' pv' : Value} {ts ts' : List (List Opx)} {ps ps' : List Int} {wr w2 : World} (h : GS Z X P R ce sl stp mu tb pb rr tv pv ts ps wr) (ho : OS Z w2 tv' pv' ts' ps') (hc : ChO Z wr w2) : GS Z X P R ce sl stp mu tb pb rr tv' pv' ts' ps' w2 :=
  have kp : ∀ (b : Nat) (cs : Array Value), wr.heap[b]? = some (.cells cs 46 (0, 0)) → w2.heap[b]? = some (.cells cs 46 (0, 0)) := fun b cs hb => hc.kept hb (fun cs' t e ht => by injection e with _ e; subst e; exact absurd ht nrow)
  ⟨ho, h.ch.trans hc, kp P _ h.bx, kp R _ h.rx, h.r0, h.lP, h.lR, h.ne, h.sz⟩
theorem GS.set {Z X : World} {P R : Nat} {ce sl : Int} {stp : Nat} {mu : Int} {tb pb : Value} {rr : Array Value} {tv pv : Value} {ts : List (List Opx)} {ps : List Int} {wr : World} (h : GS Z X P R ce sl stp mu tb pb rr tv pv ts ps wr) (i : Nat) (v : Value) : OS Z (wr.setCell ⟨P, i, none⟩ v) tv pv ts ps ∧ ChO Z X (wr.setCell ⟨P, i, none⟩ v) ∧ (wr.setCell ⟨P, i, none⟩ v).heap[P]? = some (.cells ((scR ce sl stp mu tb pb).setIfInBounds i v) 46 (0, 0)) ∧ (wr.setCell ⟨P, i, none⟩ v).heap[R]? = some (.cells rr 46 (0, 0)) :=
  ⟨h.os.keep (KpM.at (P := P) ⟨rfl, rfl, rfl, by simp [World.setCell], fun b hb hn => Below.heap_setCell _ _ _ _ hn⟩ h.bx nrow (i0 ⟨ce, rfl⟩)), h.ch.setNew h.lP _ _, set_of h.bx i v, other_of h.rx (Ne.symm h.ne) _⟩
theorem GS.setT {Z X : World} {P R : Nat} {ce sl : Int} {stp : Nat} {mu : Int} {tb pb : Value} {rr : Array Value} {tv pv : Value} {ts : List (List Opx)} {ps : List Int} {wr : World} (h : GS Z X P R ce sl stp mu tb pb rr tv pv ts ps wr) (v : Value) : GS Z X P R ce sl stp mu v pb rr tv pv ts ps (wr.setCell ⟨P, 4, none⟩ v) := by
  obtain ⟨a, b, c, d⟩ := h.set 4 v
  exact ⟨a, b, c, d, h.r0, h.lP, h.lR, h.ne, h.sz⟩
theorem GS.setP {Z X : World} {P R : Nat} {ce sl : Int} {stp : Nat} {mu : Int} {tb pb : Value} {rr : Array Value} {tv pv : Value} {ts : List (List Opx)} {ps : List Int} {wr : World} (h : GS Z X P R ce sl stp mu tb pb rr tv pv ts ps wr) (v : Value) : GS Z X P R ce sl stp mu tb v rr tv pv ts ps (wr.setCell ⟨P, 5, none⟩ v) := by
  obtain ⟨a, b, c, d⟩ := h.set 5 v
  exact ⟨a, b, c, d, h.r0, h.lP, h.lR, h.ne, h.sz⟩
end Go.Proofs.YtmmaniolaljjlaaGreatDoor
