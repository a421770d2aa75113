/- The model's maps, whatever they hold. -/
import Derived.Test.YtahgaghokpicgaaGreatW3MsW
import Derived.Maps.OwnSet
import Derived.Maps.Ext
import Derived.Shelf.SlMaps.Clone
import Derived.Deep.Upon
namespace Go.Proofs.YtahgaghokpicgaaGreat
open Go.RowKit Go.Maps
set_option linter.unusedVariables false
set_option maxHeartbeats 16000000
theorem own_chg {H : Type} {P : Program} {k : TypeId} {R : Value → Option (DataW H × List MemPlace)} {w w' : World} {b n : Nat} {D : DataW H} {F : Nat → Prop} (h : w.ownsMap P k R b n D) (c : Chg F w w') (hb : ¬ F b) : w'.ownsMap P k R b n D := by
 obtain ⟨es, clock, e, r⟩ := h
 exact ⟨es, clock, (c.block b (blk_lt e) hb).trans e, r⟩
def updO (f : Nat → Option Nat) (k : Nat) (v : Option Nat) : Nat → Option Nat := fun j => if j = k then v else f j
theorem updO_same (f : Nat → Option Nat) (k : Nat) (v : Option Nat) : updO f k v k = v := if_pos rfl
theorem updO_other (f : Nat → Option Nat) {k j : Nat} (v : Option Nat) (h : j ≠ k) : updO f k v j = f j := if_neg h
theorem lit_ne {j k : Nat} (h : j ≠ k) : (Lit.int .u64 j) ≠ Lit.int .u64 k := fun e => h (by injection e with _ e; omega)
structure RdM {H : Type} (el : Nat → DataW H) (ok : Nat → Prop) (D : DataW H) (f : Nat → Option Nat) : Prop where
 has : ∀ k : Nat, Maps.has D (.int .u64 k) = (f k).isSome
 val : ∀ k v, f k = some v → ∀ z, D.atKey (.int .u64 k) z = el v
 lt : ∀ k v, f k = some v → k < 18446744073709551616 ∧ ok v
theorem RdM.put {H : Type} {el : Nat → DataW H} {ok : Nat → Prop} {D : DataW H} {f : Nat → Option Nat} (h : RdM el ok D f) (hm : IsMap D) {k v : Nat} (hk : k < 18446744073709551616) (hv : ok v) : RdM el ok (D.put (.int .u64 k) (el v)) (updO f k (some v)) := by
 refine ⟨fun j => ?_, fun j u hj z => ?_, fun j u hj => ?_⟩
 ·by_cases e : j = k
  ·subst e; rw [updO_same, has_put_same hm (by trivial)]; rfl
  ·rw [updO_other _ _ e, has_put_other (lit_ne e)]; exact h.has j
 ·by_cases e : j = k
  ·subst e; rw [updO_same] at hj; injection hj with hj; subst hj; exact atKey_put_same hm (by trivial) _ _
  ·rw [updO_other _ _ e] at hj; rw [atKey_put_other (lit_ne e)]; exact h.val j u hj z
 ·by_cases e : j = k
  ·subst e; rw [updO_same] at hj; injection hj with hj; subst hj; exact ⟨hk, hv⟩
  ·rw [updO_other _ _ e] at hj; exact h.lt j u hj
theorem RdM.del {H : Type} {el : Nat → DataW H} {ok : Nat → Prop} {D : DataW H} {f : Nat → Option Nat} (h : RdM el ok D f) (k : Nat) : RdM el ok (D.del (.int .u64 k)) (updO f k none) := by
 refine ⟨fun j => ?_, fun j u hj z => ?_, fun j u hj => ?_⟩
 ·by_cases e : j = k
  ·subst e; rw [updO_same, has_del_same]; rfl
  ·rw [updO_other _ _ e, has_del_other (lit_ne e)]; exact h.has j
 ·by_cases e : j = k
  ·subst e; rw [updO_same] at hj; cases hj
  ·rw [updO_other _ _ e] at hj; rw [atKey_del_other (lit_ne e)]; exact h.val j u hj z
 ·by_cases e : j = k
  ·subst e; rw [updO_same] at hj; cases hj
  ·rw [updO_other _ _ e] at hj; exact h.lt j u hj
def MapR {H : Type} (R : Value → Option (DataW H × List MemPlace)) (el : Nat → DataW H) (ok : Nat → Prop) (W : World) (b n : Nat) (f : Nat → Option Nat) : Prop :=
 ∃ D, W.ownsMap Tryz.prog 30 R b n D ∧ RdM el ok D f
theorem MapR.lt {H : Type} {R : Value → Option (DataW H × List MemPlace)} {el : Nat → DataW H} {ok : Nat → Prop} {W : World} {b n : Nat} {f : Nat → Option Nat} (h : MapR R el ok W b n f) : b < W.heap.size := by
 obtain ⟨D, h, _⟩ := h; exact h.lt
theorem MapR.chg {H : Type} {R : Value → Option (DataW H × List MemPlace)} {el : Nat → DataW H} {ok : Nat → Prop} {F : Nat → Prop} {W W' : World} {b n : Nat} {f : Nat → Option Nat} (h : MapR R el ok W b n f) (c : Chg F W W') (hn : ¬ F b) : MapR R el ok W' b n f := by
 obtain ⟨D, h, r⟩ := h; exact ⟨D, own_chg h c hn, r⟩
theorem MapR.mono {H : Type} {R : Value → Option (DataW H × List MemPlace)} {el : Nat → DataW H} {ok : Nat → Prop} {W : World} {b n n' : Nat} {f : Nat → Option Nat} (h : MapR R el ok W b n f) (hn : n ≤ n') : MapR R el ok W b n' f := by
 obtain ⟨D, h, r⟩ := h; exact ⟨D, h.mono hn, r⟩
theorem MapR.made {H : Type} (R : Value → Option (DataW H × List MemPlace)) (el : Nat → DataW H) (ok : Nat → Prop) (W : World) : MapR R el ok (W.alloc (.map #[] 0)) W.heap.size 0 (fun _ => none) :=
 ⟨.map [], World.ownsMap_made W Tryz.prog 30 R, ⟨fun k => rfl, fun k v h => by simp at h, fun k v h => by simp at h⟩⟩
theorem key64 {k : Nat} (hk : k < 18446744073709551616) : keyOf Tryz.prog 30 (.int .u64 k) = some (.int .u64 k) := keyOf_int_mk Tryz.underlying30 (wf_u64 hk)
theorem MapR.putR {H : Type} {R : Value → Option (DataW H × List MemPlace)} {el : Nat → DataW H} {ok : Nat → Prop} {W : World} {b n : Nat} {f : Nat → Option Nat} (h : MapR R el ok W b n f) {t e : TypeId} (ht : Tryz.prog.underlying t = some (.map 30 e)) (hn : n < maxLen) {k v : Nat} {val : Value} {ps : List MemPlace} (hk : k < 18446744073709551616) (hv : ok v) (hR : R val = some (el v, ps)) :
    ∃ W', (Instr.mapUpdate t (.map (some b)) (.int .u64 k) val).run Tryz.prog W = .ok () W' ∧ MapR R el ok W' b (n + 1) (updO f k (some v)) ∧ Chg (fun i => i = b) W W' := by
 obtain ⟨D, h, r⟩ := h
 obtain ⟨w', hr, ho, hg⟩ := h.update K64 ht hn (key64 hk) hR
 exact ⟨w', hr, ⟨_, ho, r.put h.isMap hk hv⟩, grown_chg hg (fun i e => (Option.some.inj e).symm)⟩
theorem MapR.delR {H : Type} {R : Value → Option (DataW H × List MemPlace)} {el : Nat → DataW H} {ok : Nat → Prop} {W : World} {b n : Nat} {f : Nat → Option Nat} (h : MapR R el ok W b n f) {t e : TypeId} (ht : Tryz.prog.underlying t = some (.map 30 e)) {k : Nat} (hk : k < 18446744073709551616) (ty : TypeId) :
    ∃ W', (Builtin.delete_ #[t, 30] ty #[.map (some b), .int .u64 k]).run Tryz.prog W = .ok (.tuple #[]) W' ∧ MapR R el ok W' b n (updO f k none) ∧ Chg (fun i => i = b) W W' := by
 obtain ⟨D, h, r⟩ := h
 obtain ⟨w', hr, ho, hg⟩ := h.drop K64 ht (key64 hk) ty
 exact ⟨w', hr, ⟨_, ho, r.del k⟩, grown_chg hg.grown (fun i e => (Option.some.inj e).symm)⟩
def elU (v : Nat) : DataW Unit := .lit (.int .u64 v)
def MapAt (W : World) (b n : Nat) (f : Nat → Option Nat) : Prop := MapR (H := Unit) (plainElem Tryz.prog 30) elU (fun v => v < 18446744073709551616) W b n f
def heldM (v : Value) : Option (DataW (Option Nat) × List MemPlace) := match v with
 | .map p => some (.held p, [])
 | _ => none
def elH (b : Nat) : DataW (Option Nat) := .held (some b)
def HeldAt (W : World) (b n : Nat) (h : Nat → Option Nat) : Prop := MapR heldM elH (fun _ => True) W b n h
theorem zeroU (w : World) : (zeroValue 30).run Tryz.prog w = .ok (.int .u64 0) w := by kernel_rfl
theorem zeroC (w : World) : (zeroValue 97).run Tryz.prog w = .ok (.map none) w := by kernel_rfl
theorem MapAt.look {W : World} {b n : Nat} {f : Nat → Option Nat} (h : MapAt W b n f) {k : Nat} (hk : k < 18446744073709551616) :
    (Instr.lookup 97 (.map (some b)) (.int .u64 k) true).run Tryz.prog W = .ok (.tuple #[.int .u64 (((f k).getD 0 : Nat) : Int), .bool (f k).isSome]) W := by
 obtain ⟨D, h, r⟩ := h
 obtain ⟨v, ps, hr, hv⟩ := h.look_ok K64 Tryz.underlying97 (zeroU W) (plainElem_int (H := Unit) Tryz.underlying30 (show (Lit.int .u64 0).wf = true by decide)) (key64 hk)
 rw [hr, r.has k]
 cases hf : f k with
 | none =>
  rw [atKey_of_not_has (by rw [r.has k, hf]; rfl)] at hv
  obtain ⟨c, rfl, hc, _⟩ := plainElem_int_inv Tryz.underlying30 hv
  simp at hc
  simp [← hc.1]
 | some u =>
  rw [r.val k u hf] at hv
  obtain ⟨c, rfl, hc, _⟩ := plainElem_int_inv Tryz.underlying30 hv
  simp [elU] at hc
  simp [← hc.1]
theorem HeldAt.look {W : World} {b n : Nat} {f : Nat → Option Nat} (h : HeldAt W b n f) {k : Nat} (hk : k < 18446744073709551616) :
    (Instr.lookup 98 (.map (some b)) (.int .u64 k) true).run Tryz.prog W = .ok (.tuple #[.map (f k), .bool (f k).isSome]) W := by
 obtain ⟨D, h, r⟩ := h
 obtain ⟨v, ps, hr, hv⟩ := h.look_ok K64 Tryz.underlying98 (zeroC W) (show heldM (.map none) = some (.held none, []) from rfl) (key64 hk)
 rw [hr, r.has k]
 have e : v = .map (f k) := by
  cases hf : f k with
  | none =>
   rw [atKey_of_not_has (by rw [r.has k, hf]; rfl)] at hv
   cases v <;> simp [heldM] at hv
   rw [hv.1]
  | some u =>
   rw [r.val k u hf] at hv
   cases v <;> simp [heldM, elH] at hv
   rw [hv.1]
 rw [e]
theorem HeldAt.look1 {W : World} {b n : Nat} {f : Nat → Option Nat} (h : HeldAt W b n f) {k : Nat} (hk : k < 18446744073709551616) :
    (Instr.lookup 98 (.map (some b)) (.int .u64 k) false).run Tryz.prog W = .ok (.map (f k)) W := by
 obtain ⟨D, h, r⟩ := h
 obtain ⟨v, ps, hr, hv⟩ := h.lookup K64 Tryz.underlying98 (zeroC W) (show heldM (.map none) = some (.held none, []) from rfl) (key64 hk)
 rw [hr]
 have e : v = .map (f k) := by
  cases hf : f k with
  | none =>
   rw [atKey_of_not_has (by rw [r.has k, hf]; rfl)] at hv
   cases v <;> simp [heldM] at hv
   rw [hv.1]
  | some u =>
   rw [r.val k u hf] at hv
   cases v <;> simp [heldM, elH] at hv
   rw [hv.1]
 rw [e]
theorem MapAt.put {W : World} {b n : Nat} {f : Nat → Option Nat} (h : MapAt W b n f) (hn : n < maxLen) {k v : Nat} (hk : k < 18446744073709551616) (hv : v < 18446744073709551616) :
    ∃ W', (Instr.mapUpdate 97 (.map (some b)) (.int .u64 k) (.int .u64 v)).run Tryz.prog W = .ok () W' ∧ MapAt W' b (n + 1) (updO f k (some v)) ∧ Chg (fun i => i = b) W W' :=
 MapR.putR h Tryz.underlying97 hn hk hv (plainElem_int (H := Unit) Tryz.underlying30 (wf_u64 hv))
theorem HeldAt.put {W : World} {b n : Nat} {f : Nat → Option Nat} (h : HeldAt W b n f) (hn : n < maxLen) {k : Nat} (hk : k < 18446744073709551616) (v : Nat) :
    ∃ W', (Instr.mapUpdate 98 (.map (some b)) (.int .u64 k) (.map (some v))).run Tryz.prog W = .ok () W' ∧ HeldAt W' b (n + 1) (updO f k (some v)) ∧ Chg (fun i => i = b) W W' :=
 MapR.putR h Tryz.underlying98 hn hk trivial rfl
end Go.Proofs.YtahgaghokpicgaaGreat
namespace Go.Proofs.YtahgaghokpicgaaGreat
open Go.RowKit
set_option linter.unusedVariables false
set_option maxHeartbeats 16000000
def prRow (l : List (Nat × Nat)) : List Value := l.flatMap (fun x => [.int .u64 x.1, .int .u64 x.2])
theorem prRow_len (l : List (Nat × Nat)) : (prRow l).length = l.length * 2 := by
 induction l with
 | nil => rfl
 | cons x l ih => simp [prRow] at ih ⊢; omega
theorem prRow_get (l : List (Nat × Nat)) : ∀ (i k x : Nat), l[i]? = some (k, x) → (prRow l)[i * 2]? = some (.int .u64 k) ∧ (prRow l)[i * 2 + 1]? = some (.int .u64 x) := by
 induction l with
 | nil => intro i k x h; simp at h
 | cons y l ih =>
  intro i k x h
  have e : prRow (y :: l) = .int .u64 y.1 :: .int .u64 y.2 :: prRow l := rfl
  rw [e]
  cases i with
  | zero => simp at h; subst h; exact ⟨rfl, rfl⟩
  | succ i =>
   have q := ih i k x (by simpa using h)
   rw [show (i + 1) * 2 = i * 2 + 1 + 1 by omega]
   exact ⟨by simpa using q.1, by simpa using q.2⟩
theorem prRow_inv (l : List (Nat × Nat)) : ∀ (j : Nat) (u : Value), (prRow l)[j]? = some u → ∃ i k x : Nat, l[i]? = some (k, x) ∧ ((j = i * 2 ∧ u = .int .u64 k) ∨ (j = i * 2 + 1 ∧ u = .int .u64 x)) := by
 intro j u h
 have hj := (List.getElem?_eq_some_iff.1 h).1
 rw [prRow_len] at hj
 obtain ⟨⟨k, x⟩, hk⟩ : ∃ y, l[j / 2]? = some y := ⟨l[j / 2]'(by omega), List.getElem?_eq_getElem _⟩
 have q := prRow_get l (j / 2) k x hk
 refine ⟨j / 2, k, x, hk, ?_⟩
 rcases Nat.mod_two_eq_zero_or_one j with m | m
 ·left
  have e : j = j / 2 * 2 := by omega
  refine ⟨e, ?_⟩
  rw [e, q.1] at h
  simpa using h.symm
 ·right
  have e : j = j / 2 * 2 + 1 := by omega
  refine ⟨e, ?_⟩
  rw [e, q.2] at h
  simpa using h.symm
theorem prRow_one (l : List (Nat × Nat)) : ∀ u ∈ prRow l, u.oneCell' = true := by
 intro u hu
 obtain ⟨j, hj⟩ := List.mem_iff_getElem?.1 hu
 obtain ⟨i, k, x, _, h⟩ := prRow_inv l j u hj
 rcases h with ⟨_, rfl⟩ | ⟨_, rfl⟩ <;> rfl
end Go.Proofs.YtahgaghokpicgaaGreat
namespace Go.Proofs.YtahgaghokpicgaaGreat
open Go.RowKit Go.Maps
set_option linter.unusedVariables false
set_option maxHeartbeats 16000000
def Lists (f : Nat → Option Nat) (lo hi : Nat) (l : List (Nat × Nat)) : Prop := l.Pairwise (fun a b => a.1 < b.1) ∧ ∀ k v, (k, v) ∈ l ↔ f k = some v ∧ lo ≤ k ∧ k ≤ hi
theorem rising_unique : ∀ {l₁ l₂ : List (Nat × Nat)}, l₁.Pairwise (fun a b => a.1 < b.1) → l₂.Pairwise (fun a b => a.1 < b.1) → (∀ p, p ∈ l₁ ↔ p ∈ l₂) → l₁ = l₂
 | [], [], _, _, _ => rfl
 | [], y :: r, _, _, h => absurd ((h y).2 (by simp)) (by simp)
 | x :: r, [], _, _, h => absurd ((h x).1 (by simp)) (by simp)
 | x :: r, y :: s, h1, h2, h => by
  obtain ⟨a1, b1⟩ := List.pairwise_cons.1 h1
  obtain ⟨a2, b2⟩ := List.pairwise_cons.1 h2
  have e : x = y := by
   rcases List.mem_cons.1 ((h x).1 (by simp)) with e | e
   ·exact e
   ·rcases List.mem_cons.1 ((h y).2 (by simp)) with e' | e'
    ·exact e'.symm
    ·have q1 := a2 x e
     have q2 := a1 y e'
     omega
  subst e
  rw [rising_unique b1 b2 (fun p => ?_)]
  constructor
  ·intro hp
   rcases List.mem_cons.1 ((h p).1 (by simp [hp])) with e | e
   ·subst e; have := a1 p hp; omega
   ·exact e
  ·intro hp
   rcases List.mem_cons.1 ((h p).2 (by simp [hp])) with e | e
   ·subst e; have := a2 p hp; omega
   ·exact e
theorem Lists.unique {f : Nat → Option Nat} {lo hi : Nat} {l₁ l₂ : List (Nat × Nat)} (h1 : Lists f lo hi l₁) (h2 : Lists f lo hi l₂) : l₁ = l₂ :=
 rising_unique h1.1 h2.1 (fun ⟨k, v⟩ => (h1.2 k v).trans (h2.2 k v).symm)
structure Part (f : Nat → Option Nat) (lo hi : Nat) (left : Lit → Bool) (l : List (Nat × Nat)) : Prop where
 nd : (l.map Prod.fst).Nodup
 mem : ∀ k v, (k, v) ∈ l ↔ f k = some v ∧ lo ≤ k ∧ k ≤ hi ∧ left (.int .u64 k) = false
theorem Part.start {H : Type} {el : Nat → DataW H} {ok : Nat → Prop} {D : DataW H} {f : Nat → Option Nat} (r : RdM el ok D f) (lo hi : Nat) : Part f lo hi (Maps.has D) [] :=
 ⟨List.nodup_nil, fun k v => ⟨fun h => by simp at h, fun ⟨h, _, _, h2⟩ => by rw [r.has k, h] at h2; cases h2⟩⟩
theorem left_step {left : Lit → Bool} (x k : Nat) : ((fun z : Lit => left z && !z.sameKey (.int .u64 x)) (.int .u64 k) = false) ↔ left (.int .u64 k) = false ∨ k = x := by
 by_cases e : k = x
 ·subst e
  simp [WideAt.sameKey_self (show WideAt.IsKeyLit (.int .u64 k) by trivial)]
 ·simp [sameKey_ne (lit_ne e), e]
theorem Part.more {f : Nat → Option Nat} {lo hi : Nat} {left : Lit → Bool} {l : List (Nat × Nat)} (h : Part f lo hi left l) {x c : Nat} (hf : f x = some c) (hl : left (.int .u64 x) = true) (h1 : lo ≤ x) (h2 : x ≤ hi) : Part f lo hi (fun z => left z && !z.sameKey (.int .u64 x)) (l ++ [(x, c)]) := by
 refine ⟨?_, fun k v => ?_⟩
 ·rw [List.map_append, List.nodup_append]
  refine ⟨h.nd, by simp, fun a ha b hb => ?_⟩
  simp at hb
  subst hb
  rintro rfl
  obtain ⟨⟨k, v⟩, hm, e⟩ := List.mem_map.1 ha
  simp at e
  subst e
  have := ((h.mem k v).1 hm).2.2.2
  rw [hl] at this
  cases this
 ·rw [left_step, List.mem_append, h.mem k v]
  constructor
  ·rintro (⟨a, b, c, d⟩ | q)
   ·exact ⟨a, b, c, .inl d⟩
   ·simp at q
    obtain ⟨rfl, rfl⟩ := q
    exact ⟨hf, h1, h2, .inr rfl⟩
  ·rintro ⟨a, b, c, d | d⟩
   ·exact .inl ⟨a, b, c, d⟩
   ·subst d
    rw [hf] at a
    injection a with a
    subst a
    exact .inr (by simp)
theorem Part.skip {f : Nat → Option Nat} {lo hi : Nat} {left : Lit → Bool} {l : List (Nat × Nat)} (h : Part f lo hi left l) {x : Nat} (h1 : ¬ (lo ≤ x ∧ x ≤ hi)) : Part f lo hi (fun z => left z && !z.sameKey (.int .u64 x)) l := by
 refine ⟨h.nd, fun k v => ?_⟩
 rw [left_step, h.mem k v]
 constructor
 ·rintro ⟨a, b, c, d⟩; exact ⟨a, b, c, .inl d⟩
 ·rintro ⟨a, b, c, d | d⟩
  ·exact ⟨a, b, c, d⟩
  ·subst d; exact absurd ⟨b, c⟩ h1
theorem RdM.came {D : DataW Unit} {ok : Nat → Prop} {f : Nat → Option Nat} (r : RdM elU ok D f) {x c : Nat} (h : ∀ zd, D.atKey (.int .u64 x) zd = .lit (.int .u64 c)) : f x = some c := by
 have hh := has_true_of_atKey h
 rw [r.has x] at hh
 obtain ⟨v, hv⟩ := Option.isSome_iff_exists.1 hh
 have e := (r.val x v hv .nil).symm.trans (h .nil)
 simp [elU] at e
 rw [hv]
 exact congrArg some (by omega)
def byK (a b : Nat × Nat) : Bool := decide (a.1 ≤ b.1)
theorem Part.lists {f : Nat → Option Nat} {lo hi : Nat} {left : Lit → Bool} {l : List (Nat × Nat)} (h : Part f lo hi left l) (hl : ∀ k, left k = false) {l' : List (Nat × Nat)} (hp : l'.Perm l) (hs : l'.Pairwise (fun a b => a.1 ≤ b.1)) : Lists f lo hi l' := by
 refine ⟨?_, fun k v => ?_⟩
 ·have nd : (l'.map Prod.fst).Nodup := (hp.map Prod.fst).nodup_iff.2 h.nd
  have nd2 : l'.Pairwise (fun a b => a.1 ≠ b.1) := List.pairwise_map.1 nd
  refine (hs.and nd2).imp ?_
  rintro a b ⟨h1, h2⟩
  omega
 ·rw [hp.mem_iff, h.mem k v]
  simp [hl]
theorem Part.exists {f : Nat → Option Nat} {lo hi : Nat} {left : Lit → Bool} {l : List (Nat × Nat)} (h : Part f lo hi left l) (hl : ∀ k, left k = false) : ∃ l', Lists f lo hi l' ∧ l'.length = l.length := by
 have hp := List.mergeSort_perm l byK
 refine ⟨l.mergeSort byK, h.lists hl hp ?_, hp.length_eq⟩
 refine (List.pairwise_mergeSort (le := byK) ?_ ?_ l).imp ?_
 ·intro a b c h1 h2; simp [byK] at *; omega
 ·intro a b; simp [byK]; omega
 ·intro a b h; simpa [byK] using h
def natOf (v : Value) : Nat := (intOf v).toNat
set_option maxRecDepth 100000 in
theorem c_count {W : World} {b n : Nat} {f : Nat → Option Nat} (h : MapAt W b n f) (hn : n ≤ 8796093022000) {lo hi : Nat} (hlo : lo < 18446744073709551616) (hhi : hi < 18446744073709551616) :
    Calls Tryz.prog 96 #[.map (some b), .int .u64 lo, .int .u64 hi] W fun e W' => (∃ l, Lists f lo hi l ∧ e = .returned (.int .u64 l.length) ∧ l.length ≤ n) ∧ Chg (fun _ => False) W W' := by
 obtain ⟨D, hown, r⟩ := h
 have hsz := hown.size_le
 have HR := keepH r
 clear r
 go_enter Tryz.func96, Tryz.ntmps96
 go_wp2_with (first | (at_range; refine wpList_range_own _ rfl _ 97 rfl 30 30 K64 Tryz.underlying97 _ b n _ rfl hown ?_; intro w1 hrg1 hg1 hs1))
 have HC1 : Hid (Chg (fun _ => False) W w1) := grown_chg hg1 (fun k e => by simp at e)
 have HRG := keepH hrg1
 clear hg1 hrg1 hown hs1
 go_frame
 go_loopw [7] (fun s wr => ∃ (left : Lit → Bool) (cnt : Nat) (l : List (Nat × Nat)), s = .int .u64 l.length ∧ Hid (wr.ranges Tryz.prog 30 (plainElem Tryz.prog 30) b W.heap.size n D left cnt ∧ Part f lo hi left l ∧ l.length + cnt ≤ Maps.size D ∧ Chg (fun _ => False) W wr)) (fun _ wr => wr.rangeLeft b W.heap.size)
 case atStart => exact ⟨_, _, [], rfl, ⟨HRG.out, Part.start HR.out lo hi, by simp, HC1.out⟩⟩
 case round =>
  obtain ⟨left, cnt, l, rfl, HK⟩ := hrel
  have hrg := HK.out.1
  have hlc := HK.out.2.2.1
  go_wp2_with (first | (at_next; refine wpList_next_ranges_ii _ rfl _ rfl 30 30 .u64 .u64 K64 Tryz.underlying30 Tryz.underlying30 b W.heap.size n _ _ _ rfl hrg ?_ ?_))
  ·intro h0 hl0
   go_wp2_with fail
   go_ret
   obtain ⟨l', h1, h2⟩ := HK.out.2.1.exists hl0
   exact ⟨⟨l', h1, by simp [h2], by omega⟩, HK.out.2.2.2⟩
  ·intro x c w2 cnt2 hwx hwc hlx hat hrg2 hlt hg2 hs2 hen
   obtain ⟨x, rfl, hx⟩ := nat_u64 hwx
   obtain ⟨c, rfl, hc⟩ := nat_u64 hwc
   have hf := HR.out.came hat
   have HC2 : Hid (Chg (fun _ => False) W w2) := HK.out.2.2.2.trans (grown_chg hg2 (F := fun k => k = W.heap.size) (fun k e => (Option.some.inj e).symm)) (fun _ _ x => x) (fun i hi e => by omega)
   have HF : Hid (f x = some c ∧ left (.int .u64 x) = true) := ⟨hf, hlx⟩
   have HG2 := keepH hrg2
   have hmeas := hrg2.left_eq
   have hmeas0 := hrg.left_eq
   clear hat hf hlx hwx hwc hg2 hs2 hrg2 hrg
   by_cases t1 : lo ≤ x
   ·have q1 : (lo : Int) ≤ (x : Int) := by omega
    by_cases t2 : x ≤ hi
    ·have q2 : (x : Int) ≤ (hi : Int) := by omega
     have T := keepH (And.intro t1 t2)
     clear t1 t2
     go_wp2_with fail
     go_roundw
     case rel => exact ⟨_, cnt2, l ++ [(x, c)], by first | rfl | go_num | simp, HG2.out, HK.out.2.1.more HF.out.1 HF.out.2 T.out.1 T.out.2, by simp; omega, HC2.out⟩
     case measure => rw [hmeas, hmeas0]; exact hlt
    ·have q2 : ¬ (x : Int) ≤ (hi : Int) := by omega
     have T : Hid (¬ (lo ≤ x ∧ x ≤ hi)) := fun z => t2 z.2
     clear t1 t2
     go_wp2_with fail
     go_roundw
     case rel => exact ⟨_, cnt2, l, rfl, HG2.out, HK.out.2.1.skip T.out, by omega, HC2.out⟩
     case measure => rw [hmeas, hmeas0]; exact hlt
   ·have q1 : ¬ (lo : Int) ≤ (x : Int) := by omega
    have T : Hid (¬ (lo ≤ x ∧ x ≤ hi)) := fun z => t1 z.1
    clear t1
    go_wp2_with fail
    go_roundw
    case rel => exact ⟨_, cnt2, l, rfl, HG2.out, HK.out.2.1.skip T.out, by omega, HC2.out⟩
    case measure => rw [hmeas, hmeas0]; exact hlt
def KeysAt (W : World) (p : Option Addr) (l : List Nat) : Prop := l = [] ∨ ∃ bk off, p = some ⟨bk, off, none⟩ ∧ bk < W.heap.size ∧ ∀ (i : Nat) (k : Nat), l[i]? = some k → k < 18446744073709551616 ∧ W.cell? ⟨bk, off + i, none⟩ = some (.int .u64 k)
theorem KeysAt.chg {F : Nat → Prop} {W W' : World} {p : Option Addr} {l : List Nat} (h : KeysAt W p l) (c : Chg F W W') (hn : ∀ bk off, p = some ⟨bk, off, none⟩ → ¬ F bk) : KeysAt W' p l := by
 rcases h with h | ⟨bk, off, rfl, hb, h⟩
 ·exact .inl h
 ·exact .inr ⟨bk, off, rfl, Nat.lt_of_lt_of_le hb c.size, fun i k hk => ⟨(h i k hk).1, cell_chg c (h i k hk).2 (hn bk off rfl)⟩⟩
theorem PairsAt.chgF {F : Nat → Prop} {W W' : World} {p : Option Addr} {l : List (Nat × Nat)} (h : PairsAt W p l) (c : Chg F W W') (hn : ∀ bk off, p = some ⟨bk, off, none⟩ → ¬ F bk) : PairsAt W' p l := by
 rcases h with h | ⟨bk, off, rfl, hb, h⟩
 ·exact .inl h
 ·exact .inr ⟨bk, off, rfl, Nat.lt_of_lt_of_le hb c.size, fun i k x hk => by
    obtain ⟨a, b, c1, c2⟩ := h i k x hk
    exact ⟨a, b, cell_chg c c1 (hn bk off rfl), cell_chg c c2 (hn bk off rfl)⟩⟩
def small64 (l : List (Nat × Nat)) : Prop := ∀ x ∈ l, x.1 < 18446744073709551616 ∧ x.2 < 18446744073709551616
def PRow (W : World) (B : Nat) (v : Value) (l : List (Nat × Nat)) : Prop := W.ownsRow B 86 2 v l.length (prRow l) ∧ small64 l
theorem PRow.nil (W : World) (B : Nat) : PRow W B (.slice none 0 0) [] := ⟨⟨rfl, .inl ⟨rfl, rfl⟩⟩, fun x h => by simp at h⟩
theorem PRow.kept {W W' : World} {B : Nat} {v : Value} {l : List (Nat × Nat)} {row : Option Nat} (h : PRow W B v l) (hg : W.grownBy W' row) (hn : v.ownBlock = none ∨ v.ownBlock ≠ row) : PRow W' B v l := ⟨h.1.kept hg hn, h.2⟩
theorem PRow.lt {W : World} {B : Nat} {v : Value} {l : List (Nat × Nat)} (h : PRow W B v l) : ∀ b, v.ownBlock = some b → B ≤ b ∧ b < W.heap.size := h.1.lt
theorem PRow.slice {W : World} {B : Nat} {v : Value} {l : List (Nat × Nat)} (h : PRow W B v l) : ∃ p c, v = .slice p l.length c ∧ PairsAt W p l ∧ ∀ bk off, p = some ⟨bk, off, none⟩ → B ≤ bk := by
 obtain ⟨⟨hl, h⟩, hs⟩ := h
 rcases h with ⟨rfl, e⟩ | ⟨g, cap, cur, rfl, hB, hg, _, _, _, ht⟩
 ·obtain rfl := List.length_eq_zero_iff.1 e
  exact ⟨none, 0, rfl, .inl rfl, fun bk off e => by cases e⟩
 ·refine ⟨_, cap, rfl, .inr ⟨g, 0, rfl, lt_of hg, fun i k x hk => ?_⟩, fun bk off e => by injection e with e; injection e with e; omega⟩
  have hm := hs (k, x) (List.mem_of_getElem? hk)
  have hi := (List.getElem?_eq_some_iff.1 hk).1
  obtain ⟨q1, q2⟩ := prRow_get l i k x hk
  rw [← ht, List.getElem?_take_of_lt (by omega)] at q1 q2
  refine ⟨hm.1, hm.2, ?_, ?_⟩
  ·rw [cell_of hg]; simpa using q1
  ·rw [cell_of hg]; simpa using q2
def OPairs (W : World) (p : Option Addr) (c : Nat) (l : List (Nat × Nat)) : Prop := PRow W 0 (.slice p l.length c) l
theorem OPairs.nil (W : World) : OPairs W none 0 [] := PRow.nil W 0
theorem OPairs.of_nil {W : World} {l : List (Nat × Nat)} (h : l = []) : OPairs W none 0 l := by subst h; exact OPairs.nil W
theorem PRow.oslice {W : World} {B : Nat} {v : Value} {l : List (Nat × Nat)} (h : PRow W B v l) : ∃ p c, v = .slice p l.length c ∧ OPairs W p c l ∧ ∀ bk off, p = some ⟨bk, off, none⟩ → B ≤ bk := by
 obtain ⟨p, c, rfl, -, hb⟩ := h.slice
 refine ⟨p, c, rfl, ⟨⟨h.1.1, ?_⟩, h.2⟩, hb⟩
 rcases h.1.2 with q | ⟨g, cap, cur, q1, q2, q3⟩
 ·exact .inl q
 ·exact .inr ⟨g, cap, cur, q1, Nat.zero_le _, q3⟩
theorem OPairs.at_ {W : World} {p : Option Addr} {c : Nat} {l : List (Nat × Nat)} (h : OPairs W p c l) : PairsAt W p l := by
 obtain ⟨p', c', e, hP, -⟩ := h.slice
 injection e with e1 e2 e3
 subst e1
 exact hP
theorem OPairs.chgF {F : Nat → Prop} {W W' : World} {p : Option Addr} {c : Nat} {l : List (Nat × Nat)} (h : OPairs W p c l) (k : Chg F W W') (hn : ∀ bk off, p = some ⟨bk, off, none⟩ → ¬ F bk) : OPairs W' p c l := by
 refine ⟨⟨h.1.1, ?_⟩, h.2⟩
 rcases h.1.2 with q | ⟨g, cap, cur, q1, q2, q3, q4⟩
 ·exact .inl q
 ·refine .inr ⟨g, cap, cur, q1, q2, (k.block g (lt_of q3) ?_).trans q3, q4⟩
  injection q1 with e1 e2 e3
  exact hn g 0 e1
theorem OPairs.chg {W W' : World} {p : Option Addr} {c : Nat} {l : List (Nat × Nat)} (h : OPairs W p c l) (k : Chg (fun _ => False) W W') : OPairs W' p c l := h.chgF k (fun _ _ _ x => x)
theorem prRow_add (l : List (Nat × Nat)) (k v : Nat) : prRow l ++ [.int .u64 k, .int .u64 v] = prRow (l ++ [(k, v)]) := by simp [prRow]
theorem PRow.add {W' : World} {B : Nat} {v' : Value} {l : List (Nat × Nat)} (hs : small64 l) {k x : Nat} (hk : k < 18446744073709551616) (hx : x < 18446744073709551616) (h : W'.ownsRow B 86 2 v' (l.length + 1) (prRow l ++ [.int .u64 k, .int .u64 x])) : PRow W' B v' (l ++ [(k, x)]) := by
 refine ⟨?_, fun y hy => ?_⟩
 ·rw [← prRow_add]; simpa using h
 ·rcases List.mem_append.1 hy with hy | hy
  ·exact hs y hy
  ·simp at hy; subst hy; exact ⟨hk, hx⟩
def pairsOf (f : Nat → Option Nat) (ks : List Nat) : List (Nat × Nat) := ks.filterMap (fun k => (f k).map (fun v => (k, v)))
theorem pairsOf_add (f : Nat → Option Nat) (ks : List Nat) (i k : Nat) (h : ks[i]? = some k) : pairsOf f (ks.take (i + 1)) = pairsOf f (ks.take i) ++ pairsOf f [k] := by
 rw [List.take_add_one, h]
 simp [pairsOf]
theorem pairsOf_len (f : Nat → Option Nat) (ks : List Nat) : (pairsOf f ks).length ≤ ks.length := List.length_filterMap_le _ _
set_option maxRecDepth 100000 in
theorem c_of {W : World} {b n : Nat} {f : Nat → Option Nat} (h : MapAt W b n f) {p : Option Addr} {ks : List Nat} (hk : KeysAt W p ks) (hkl : ks.length ≤ 8796093022000) (c : Nat) :
    Calls Tryz.prog 95 #[.map (some b), .slice p ks.length c] W fun e W' => (∃ v, e = .returned v ∧ PRow W' W.heap.size v (pairsOf f ks)) ∧ Chg (fun _ => False) W W' := by
 obtain ⟨i0, hi, hz0, hz1, hz2⟩ := info_parts infoPair
 have HM := keepH h
 have HK := keepH hk
 clear h hk
 go_enter Tryz.func95, Tryz.ntmps95
 go_wp2_with fail
 go_loopw [5, 12] (fun s q wr => ∃ i : Nat, i ≤ ks.length ∧ q = .int .i64 i ∧ Hid (PRow wr W.heap.size s (pairsOf f (ks.take i)) ∧ Chg (fun _ => False) W wr)) (fun _ q _ => ks.length - natOf q)
 case atStart => exact ⟨0, Nat.zero_le _, rfl, PRow.nil _ _, Chg.refl _ _⟩
 case round =>
  obtain ⟨i, hil, rfl, HX⟩ := hrel
  by_cases hlt : i < ks.length
  ·have q1 : (i : Int) < (ks.length : Int) := by omega
   obtain ⟨k, hk⟩ : ∃ k, ks[i]? = some k := ⟨ks[i], List.getElem?_eq_getElem hlt⟩
   obtain ⟨bk, off, rfl, hbk, hcs⟩ := HK.out.resolve_left (by intro e; subst e; simp at hk)
   obtain ⟨hk64, hcell⟩ := hcs i k hk
   have c0 := cell_chg HX.out.2 hcell (fun x => x)
   have hlk := MapAt.look (MapR.chg HM.out HX.out.2 (fun x => x)) hk64
   have HT := keepH (pairsOf_add f ks i k hk)
   have hpl := pairsOf_len f (ks.take i)
   rw [List.length_take] at hpl
   have HB : Hid ((pairsOf f (ks.take i)).length < 8796093022000 ∧ k < 18446744073709551616) := ⟨by omega, hk64⟩
   clear hk hcs hcell hpl
   cases hf : f k with
   | none =>
    rw [hf] at hlk
    have HF := keepH hf
    clear hf
    go_wp2_with fail
    go_roundw
    case rel => exact ⟨i + 1, by omega, by first | rfl | go_num, by rw [HT.out]; simpa [pairsOf, HF.out] using HX.out.1, HX.out.2⟩
    case measure => simp [natOf, intOf]; omega
   | some v =>
    obtain ⟨D, _, r⟩ := HM.out
    have hv64 := (r.lt k v hf).2
    rw [hf] at hlk
    have HF : Hid (f k = some v ∧ v < 18446744073709551616) := ⟨hf, hv64⟩
    clear hf r hv64
    go_wp2_with (first | (at_builtin; go_loud (refine wpList_append_own_at _ rfl _ _ 37 rfl W.heap.size 86 i0 (.agg #[.int .u64 0, .int .u64 0]) 2 16 Tryz.underlying37 hi hz0 hz1 hz2 rfl (by decide) _ _ _ rfl (HX.out.1.1.kept (World.grownBy_alloc _ _ none) (by cases Value.ownBlock _ <;> simp)) ⟨_, 0, none⟩ 1 1 [.int .u64 k, .int .u64 v] rfl rfl (cells_new _ _ rfl _ _) (by intro u hu; simp at hu; rcases hu with rfl | rfl <;> rfl) (by unfold maxLen; have := HB.out.1; omega) (by have := HB.out.1; omega) (Nat.le_trans HX.out.2.size (by simp)) ?_); intro v' w3 r1 r2 r3 r4; have R1 := keepH r1; have R2 := keepH r2; have R4 := keepH r4; clear r1 r2 r3 r4))
    go_roundw
    case rel =>
     refine ⟨i + 1, by omega, by first | rfl | go_num, ?_, ?_⟩
     ·rw [HT.out]
      have e : pairsOf f [k] = [(k, v)] := by simp [pairsOf, HF.out.1]
      rw [e]
      exact PRow.add HX.out.1.2 HB.out.2 HF.out.2 R1.out
     ·exact (HX.out.2.alloc _).trans (grown_chg (F := fun j => W.heap.size ≤ j) R2.out (fun j e => (HX.out.1.lt j e).1)) (fun _ _ x => x) (fun j hj e => by omega)
    case measure => simp [natOf, intOf]; omega
  ·have q1 : ¬ (i : Int) < (ks.length : Int) := by omega
   obtain rfl : i = ks.length := by omega
   go_wp2_with fail
   go_ret
   rw [List.take_length] at HX
   exact ⟨⟨_, rfl, HX.out.1⟩, HX.out.2⟩
structure MoAt (W : World) (m nw hd mu : Nat) (f h : Nat → Option Nat) (g : Nat → Nat → Option Nat) (n : Nat) : Prop where
 md : W.heap[m]? = some (.cells #[.int .i64 mu, .map (some nw), .map (some hd)] 100 (0, 0))
 now : MapAt W nw n f
 held : HeldAt W hd n h
 pic : ∀ k b, h k = some b → MapAt W b n (g b)
 mn : m ≠ nw
 mh : m ≠ hd
 nh : nw ≠ hd
 ap : ∀ k b, h k = some b → b ≠ nw ∧ b ≠ hd ∧ b ≠ m
theorem MoAt.chg {F : Nat → Prop} {W W' : World} {m nw hd mu : Nat} {f h : Nat → Option Nat} {g : Nat → Nat → Option Nat} {n : Nat} (H : MoAt W m nw hd mu f h g n) (c : Chg F W W') (h1 : ¬ F m) (h2 : ¬ F nw) (h3 : ¬ F hd) (h4 : ∀ k b, h k = some b → ¬ F b) : MoAt W' m nw hd mu f h g n :=
 ⟨(c.block m (lt_of H.md) h1).trans H.md, MapR.chg H.now c h2, MapR.chg H.held c h3, fun k b hb => MapR.chg (H.pic k b hb) c (h4 k b hb), H.mn, H.mh, H.nh, H.ap⟩
theorem MoAt.quiet {W W' : World} {m nw hd mu : Nat} {f h : Nat → Option Nat} {g : Nat → Nat → Option Nat} {n : Nat} (H : MoAt W m nw hd mu f h g n) (c : Chg (fun _ => False) W W') : MoAt W' m nw hd mu f h g n :=
 H.chg c (fun x => x) (fun x => x) (fun x => x) (fun _ _ _ x => x)
theorem MoAt.blk {W : World} {m nw hd mu : Nat} {f h : Nat → Option Nat} {g : Nat → Nat → Option Nat} {n : Nat} (H : MoAt W m nw hd mu f h g n) : m < W.heap.size ∧ nw < W.heap.size ∧ hd < W.heap.size ∧ ∀ k b, h k = some b → b < W.heap.size :=
 ⟨lt_of H.md, MapR.lt H.now, MapR.lt H.held, fun k b hb => MapR.lt (H.pic k b hb)⟩
theorem MoAt.mono {W : World} {m nw hd mu : Nat} {f h : Nat → Option Nat} {g : Nat → Nat → Option Nat} {n n' : Nat} (H : MoAt W m nw hd mu f h g n) (hn : n ≤ n') : MoAt W m nw hd mu f h g n' :=
 ⟨H.md, MapR.mono H.now hn, MapR.mono H.held hn, fun k b hb => MapR.mono (H.pic k b hb) hn, H.mn, H.mh, H.nh, H.ap⟩
set_option maxRecDepth 100000 in
theorem holds_g {W : World} {m nw hd mu : Nat} {f h : Nat → Option Nat} {g : Nat → Nat → Option Nat} {n : Nat} (H : MoAt W m nw hd mu f h g n) {k : Nat} (hk : k < 18446744073709551616) :
    Calls Tryz.prog 56 #[.pointer (some ⟨m, 0, none⟩), .int .u64 k] W fun e W' => e = .returned (.bool (h k).isSome) ∧ W' = W := by
 have c2 : W.cell? ⟨m, 2, none⟩ = some (.map (some hd)) := cell_of H.md 2
 have hlk := HeldAt.look H.held hk
 clear H
 go_enter Tryz.func56, Tryz.ntmps56
 go_wp2_with fail
 go_ret
 exact ⟨by simp, rfl⟩
def leftF (f : Nat → Option Nat) (left : Lit → Bool) : Nat → Option Nat := fun k => if left (.int .u64 k) = true then none else f k
theorem leftF_start {H : Type} {el : Nat → DataW H} {ok : Nat → Prop} {D : DataW H} {f : Nat → Option Nat} (r : RdM el ok D f) : leftF f (Maps.has D) = fun _ => none := by
 funext k
 unfold leftF
 rw [r.has k]
 cases f k <;> simp
theorem leftF_step {f : Nat → Option Nat} {left : Lit → Bool} {x c : Nat} (hf : f x = some c) : leftF f (fun z => left z && !z.sameKey (.int .u64 x)) = updO (leftF f left) x (some c) := by
 funext k
 by_cases e : k = x
 ·subst e
  rw [updO_same]
  unfold leftF
  rw [if_neg (by rw [(left_step k k).2 (.inr rfl)]; simp), hf]
 ·rw [updO_other _ _ e]
  unfold leftF
  simp [sameKey_ne (lit_ne e)]
theorem leftF_end {f : Nat → Option Nat} {left : Lit → Bool} (h : ∀ k, left k = false) : leftF f left = f := by
 funext k
 unfold leftF
 simp [h]
set_option maxRecDepth 100000 in
theorem c_pict {W : World} {b n : Nat} {f : Nat → Option Nat} (h : MapAt W b n f) (hn : n ≤ 8796093022000) :
    Calls Tryz.prog 86 #[.map (some b)] W fun e W' => e = .returned (.map (some W.heap.size)) ∧ MapAt W' W.heap.size n f ∧ Chg (fun _ => False) W W' := by
 obtain ⟨D, hown, r⟩ := h
 have hsz := hown.size_le
 have hbl := hown.lt
 have HR := keepH r
 clear r
 have hmm := mk_hint
 have C0 : Chg (fun _ => False) W (W.alloc (.map #[] 0)) := (Chg.refl _ _).alloc _
 have hown1 := own_chg hown C0 (fun x => x)
 have M0 : MapAt (W.alloc (.map #[] 0)) W.heap.size 0 (fun _ => none) := MapR.made _ _ _ W
 obtain ⟨w0, hw0⟩ : ∃ w0, w0 = W.alloc (.map #[] 0) := ⟨_, rfl⟩
 have z0 : w0.heap.size = W.heap.size + 1 := by rw [hw0]; exact World.size_alloc _ _
 rw [← hw0] at C0 hown1 M0
 have HC0 := keepH C0
 have HM0 := keepH M0
 have HZ0 := keepH z0
 clear C0 M0 z0
 go_enter Tryz.func86, Tryz.ntmps86
 go_wp2_with (first | (at_len; refine wpList_len_own _ rfl _ 97 rfl 30 30 Tryz.underlying97 _ b n D rfl hown ?_) | (at_range; rw [← hw0]; refine wpList_range_own _ rfl _ 97 rfl 30 30 K64 Tryz.underlying97 _ b n _ rfl hown1 ?_; intro w1 hrg1 hg1 hs1))
 have HC1 : Hid (Chg (fun _ => False) W w1) := HC0.out.trans (grown_chg (F := fun _ => False) hg1 (fun k e => by simp at e)) (fun _ _ x => x) (fun _ _ x => x)
 have HM1 : Hid (MapAt w1 W.heap.size 0 (fun _ => none)) := MapR.chg (F := fun _ => False) HM0.out (grown_chg hg1 (fun k e => by simp at e)) (fun x => x)
 have HRG := keepH hrg1
 clear hg1 hrg1 hown hown1 hs1 hw0 HC0 HM0 hmm
 go_frame
 go_loopw [] (fun wr => ∃ (left : Lit → Bool) (cnt j : Nat), Hid (wr.ranges Tryz.prog 30 (plainElem Tryz.prog 30) b w0.heap.size n D left cnt ∧ MapAt wr W.heap.size j (leftF f left) ∧ j + cnt ≤ Maps.size D ∧ Chg (fun _ => False) W wr)) (fun wr => wr.rangeLeft b w0.heap.size)
 case atStart => exact ⟨_, _, 0, ⟨HRG.out, by rw [leftF_start HR.out]; exact HM1.out, by simp, HC1.out⟩⟩
 case round =>
  obtain ⟨left, cnt, j, HK⟩ := hrel
  have hrg := HK.out.1
  have hlc := HK.out.2.2.1
  go_wp2_with (first | (at_next; refine wpList_next_ranges_ii _ rfl _ rfl 30 30 .u64 .u64 K64 Tryz.underlying30 Tryz.underlying30 b w0.heap.size n _ _ _ rfl hrg ?_ ?_))
  ·intro h0 hl0
   have HM : Hid (MapAt wr W.heap.size n f) := by
    have q := HK.out.2.1
    rw [leftF_end hl0] at q
    exact MapR.mono q (by omega)
   clear hl0 hrg
   go_wp2_with fail
   go_ret
   exact ⟨rfl, HM.out, HK.out.2.2.2⟩
  ·intro x c w2 cnt2 hwx hwc hlx hat hrg2 hlt hg2 hs2 hen
   obtain ⟨x, rfl, hx⟩ := nat_u64 hwx
   obtain ⟨c, rfl, hc⟩ := nat_u64 hwc
   have hf := HR.out.came hat
   have G2 : Chg (fun k => k = w0.heap.size) wr w2 := grown_chg hg2 (fun k e => (Option.some.inj e).symm)
   have M2 : MapAt w2 W.heap.size j (leftF f left) := MapR.chg HK.out.2.1 G2 (by have := HZ0.out; omega)
   obtain ⟨w3, hu, M3, C3⟩ := MapAt.put M2 (by unfold maxLen; omega) hx hc
   have HC3 : Hid (Chg (fun _ => False) W w3) := (HK.out.2.2.2.trans G2 (fun _ _ x => x) (fun i hi e => by have := HZ0.out; omega)).trans C3 (fun _ _ x => x) (fun i hi e => by omega)
   have cg : w2.grownBy w3 (some W.heap.size) := ⟨C3.os, C3.tape, C3.output, C3.size, fun k hk hn => C3.block k hk (fun e => hn (by rw [e]))⟩
   have hrg3 := hrg2.kept cg (fun e => by injection e with e; omega) (fun e => by injection e with e; have := HZ0.out; omega)
   have HG3 := keepH hrg3
   have HM3 : Hid (MapAt w3 W.heap.size (j + 1) (leftF f (fun z => left z && !z.sameKey (.int .u64 x)))) := by rw [leftF_step hf]; exact M3
   have hmeas := hrg3.left_eq
   have hmeas0 := hrg.left_eq
   clear hat hf hlx hwx hwc hg2 hs2 hrg2 hrg hrg3 G2 M2 M3 C3 cg
   go_wp2_with fail
   go_roundw
   case rel => exact ⟨_, cnt2, j + 1, HG3.out, HM3.out, by omega, HC3.out⟩
   case measure => rw [hmeas, hmeas0]; exact hlt
end Go.Proofs.YtahgaghokpicgaaGreat
