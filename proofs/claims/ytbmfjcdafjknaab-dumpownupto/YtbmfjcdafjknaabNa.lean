/- The model's maps, whatever they hold. -/
import Derived.Test.YtbmfjcdafjknaabMsW
import Derived.Maps.OwnSet
import Derived.Maps.Ext
import Derived.Shelf.SlMaps.Clone
namespace Go.Proofs.Ytbmfjcdafjknaab
open Go.RowKit Go.Maps
set_option linter.unusedVariables false

theorem own_chg {H : Type} {P : Program} {k : TypeId} {R : Value → Option (DataW H × List MemPlace)} {w w' : World} {b n : Nat} {D : DataW H} {F : Nat → Prop} (h : w.ownsMap P k R b n D) (c : Chg F w w') (hb : ¬ F b) : w'.ownsMap P k R b n D := by
  obtain ⟨es, clock, e, r⟩ := h
  exact ⟨es, clock, (c.block b (blk_lt e) hb).trans e, r⟩
def updO (f : Nat → Option Nat) (k : Nat) (v : Option Nat) : Nat → Option Nat := fun j => if j = k then v else f j
theorem updO_same (f : Nat → Option Nat) (k : Nat) (v : Option Nat) : updO f k v k = v := if_pos rfl
theorem updO_other (f : Nat → Option Nat) {k j : Nat} (v : Option Nat) (h : j ≠ k) : updO f k v j = f j := if_neg h
theorem lit_ne {j k : Nat} (h : j ≠ k) : (Lit.int .u64 (j : Int)) ≠ Lit.int .u64 (k : Int) := fun e => h (by injection e with _ e; omega)
/-- What a map's datum says: f. -/
structure RdM {H : Type} (el : Nat → DataW H) (ok : Nat → Prop) (D : DataW H) (f : Nat → Option Nat) : Prop where
  has : ∀ k : Nat, Maps.has D (.int .u64 (k : Int)) = (f k).isSome
  val : ∀ k v, f k = some v → ∀ z, D.atKey (.int .u64 (k : Int)) z = el v
  lt : ∀ k v, f k = some v → k < 18446744073709551616 ∧ ok v
theorem RdM.put {H : Type} {el : Nat → DataW H} {ok : Nat → Prop} {D : DataW H} {f : Nat → Option Nat} (h : RdM el ok D f) (hm : IsMap D) {k v : Nat} (hk : k < 18446744073709551616) (hv : ok v) : RdM el ok (D.put (.int .u64 (k : Int)) (el v)) (updO f k (some v)) := by
  refine ⟨fun j => ?_, fun j u hj z => ?_, fun j u hj => ?_⟩
  · by_cases e : j = k
    · subst e; rw [updO_same, has_put_same hm (by trivial)]; rfl
    · rw [updO_other _ _ e, has_put_other (lit_ne e)]; exact h.has j
  · by_cases e : j = k
    · subst e; rw [updO_same] at hj; injection hj with hj; subst hj; exact atKey_put_same hm (by trivial) _ _
    · rw [updO_other _ _ e] at hj; rw [atKey_put_other (lit_ne e)]; exact h.val j u hj z
  · by_cases e : j = k
    · subst e; rw [updO_same] at hj; injection hj with hj; subst hj; exact ⟨hk, hv⟩
    · rw [updO_other _ _ e] at hj; exact h.lt j u hj
theorem RdM.del {H : Type} {el : Nat → DataW H} {ok : Nat → Prop} {D : DataW H} {f : Nat → Option Nat} (h : RdM el ok D f) (k : Nat) : RdM el ok (D.del (.int .u64 (k : Int))) (updO f k none) := by
  refine ⟨fun j => ?_, fun j u hj z => ?_, fun j u hj => ?_⟩
  · by_cases e : j = k
    · subst e; rw [updO_same, has_del_same]; rfl
    · rw [updO_other _ _ e, has_del_other (lit_ne e)]; exact h.has j
  · by_cases e : j = k
    · subst e; rw [updO_same] at hj; cases hj
    · rw [updO_other _ _ e] at hj; rw [atKey_del_other (lit_ne e)]; exact h.val j u hj z
  · by_cases e : j = k
    · subst e; rw [updO_same] at hj; cases hj
    · rw [updO_other _ _ e] at hj; exact h.lt j u hj
/-- A block that is a map: f. -/
def MapR {H : Type} (R : Value → Option (DataW H × List MemPlace)) (el : Nat → DataW H) (ok : Nat → Prop) (W : World) (b n : Nat) (f : Nat → Option Nat) : Prop :=
  ∃ D, W.ownsMap Try.prog 57 R b n D ∧ RdM el ok D f
theorem MapR.lt {H : Type} {R : Value → Option (DataW H × List MemPlace)} {el : Nat → DataW H} {ok : Nat → Prop} {W : World} {b n : Nat} {f : Nat → Option Nat} (h : MapR R el ok W b n f) : b < W.heap.size := by
  obtain ⟨D, h, _⟩ := h; exact h.lt
theorem MapR.chg {H : Type} {R : Value → Option (DataW H × List MemPlace)} {el : Nat → DataW H} {ok : Nat → Prop} {F : Nat → Prop} {W W' : World} {b n : Nat} {f : Nat → Option Nat} (h : MapR R el ok W b n f) (c : Chg F W W') (hn : ¬ F b) : MapR R el ok W' b n f := by
  obtain ⟨D, h, r⟩ := h; exact ⟨D, own_chg h c hn, r⟩
theorem MapR.mono {H : Type} {R : Value → Option (DataW H × List MemPlace)} {el : Nat → DataW H} {ok : Nat → Prop} {W : World} {b n n' : Nat} {f : Nat → Option Nat} (h : MapR R el ok W b n f) (hn : n ≤ n') : MapR R el ok W b n' f := by
  obtain ⟨D, h, r⟩ := h; exact ⟨D, h.mono hn, r⟩
theorem MapR.made {H : Type} (R : Value → Option (DataW H × List MemPlace)) (el : Nat → DataW H) (ok : Nat → Prop) (W : World) : MapR R el ok (W.alloc (.map #[] 0)) W.heap.size 0 (fun _ => none) :=
  ⟨.map [], World.ownsMap_made W Try.prog 57 R, ⟨fun k => rfl, fun k v h => by simp at h, fun k v h => by simp at h⟩⟩
theorem MapR.block {H : Type} {R : Value → Option (DataW H × List MemPlace)} {el : Nat → DataW H} {ok : Nat → Prop} {W W' : World} {b b' n : Nat} {f : Nat → Option Nat} (h : MapR R el ok W b n f) {es : Array MapEntry} {c : Nat} (hb : W.heap[b]? = some (.map es c)) (hb' : W'.heap[b']? = some (.map es c)) : MapR R el ok W' b' n f := by
  obtain ⟨D, ⟨es0, c0, h0, F, hs, hD⟩, r⟩ := h
  rw [hb] at h0
  simp only [Option.some.injEq, Obj.map.injEq] at h0
  obtain ⟨rfl, rfl⟩ := h0
  exact ⟨D, ⟨es, c, hb', F, hs, hD⟩, r⟩
theorem MapR.is {H : Type} {R : Value → Option (DataW H × List MemPlace)} {el : Nat → DataW H} {ok : Nat → Prop} {W : World} {b n : Nat} {f : Nat → Option Nat} (h : MapR R el ok W b n f) : ∃ es c, W.heap[b]? = some (.map es c) := by
  obtain ⟨D, ⟨es0, c0, h0, _⟩, r⟩ := h; exact ⟨_, _, h0⟩
theorem key64 {k : Nat} (hk : k < 18446744073709551616) : keyOf Try.prog 57 (.int .u64 (k : Int)) = some (.int .u64 (k : Int)) := keyOf_int_mk Try.underlying57 (wf_u64 hk)
theorem MapR.putR {H : Type} {R : Value → Option (DataW H × List MemPlace)} {el : Nat → DataW H} {ok : Nat → Prop} {W : World} {b n : Nat} {f : Nat → Option Nat} (h : MapR R el ok W b n f) {t e : TypeId} (ht : Try.prog.underlying t = some (.map 57 e)) (hn : n < maxLen) {k v : Nat} {val : Value} {ps : List MemPlace} (hk : k < 18446744073709551616) (hv : ok v) (hR : R val = some (el v, ps)) :
    ∃ W', (Instr.mapUpdate t (.map (some b)) (.int .u64 (k : Int)) val).run Try.prog W = .ok () W' ∧ MapR R el ok W' b (n + 1) (updO f k (some v)) ∧ Chg (fun i => i = b) W W' := by
  obtain ⟨D, h, r⟩ := h
  obtain ⟨w', hr, ho, hg⟩ := h.update K64 ht hn (key64 hk) hR
  exact ⟨w', hr, ⟨_, ho, r.put h.isMap hk hv⟩, grown_chg hg (fun i e => (Option.some.inj e).symm)⟩
theorem MapR.delR {H : Type} {R : Value → Option (DataW H × List MemPlace)} {el : Nat → DataW H} {ok : Nat → Prop} {W : World} {b n : Nat} {f : Nat → Option Nat} (h : MapR R el ok W b n f) {t e : TypeId} (ht : Try.prog.underlying t = some (.map 57 e)) {k : Nat} (hk : k < 18446744073709551616) (ty : TypeId) :
    ∃ W', (Builtin.delete_ #[t, 57] ty #[.map (some b), .int .u64 (k : Int)]).run Try.prog W = .ok (.tuple #[]) W' ∧ MapR R el ok W' b n (updO f k none) ∧ Chg (fun i => i = b) W W' := by
  obtain ⟨D, h, r⟩ := h
  obtain ⟨w', hr, ho, hg⟩ := h.drop K64 ht (key64 hk) ty
  exact ⟨w', hr, ⟨_, ho, r.del k⟩, grown_chg hg.grown (fun i e => (Option.some.inj e).symm)⟩
/-- A content: keys and values. -/
def elU (v : Nat) : DataW Unit := .lit (.int .u64 (v : Int))
def MapAt (W : World) (b n : Nat) (f : Nat → Option Nat) : Prop := MapR (H := Unit) (plainElem Try.prog 57) elU (fun v => v < 18446744073709551616) W b n f
/-- The pictures: handles and blocks. -/
def heldM (v : Value) : Option (DataW (Option Nat) × List MemPlace) := match v with
  | .map p => some (.held p, [])
  | _ => none
def elH (b : Nat) : DataW (Option Nat) := .held (some b)
def HeldAt (W : World) (b n : Nat) (h : Nat → Option Nat) : Prop := MapR heldM elH (fun _ => True) W b n h
theorem zeroU (w : World) : (zeroValue 57).run Try.prog w = .ok (.int .u64 0) w := by kernel_rfl
end Go.Proofs.Ytbmfjcdafjknaab
