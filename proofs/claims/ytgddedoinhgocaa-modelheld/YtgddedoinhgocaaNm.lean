/- Two maps held against each other: the same contents, the same pictures. -/
import Derived.Test.YtgddedoinhgocaaNk
namespace Go.Proofs.Ytgddedoinhgocaa
open Go.RowKit Go.Maps Go.Shelf
set_option linter.unusedVariables false

theorem key_shape {H : Type} {R : Value → Option (DataW H × List MemPlace)} {W : World} {b n : Nat} {D : DataW H} (h : W.ownsMap Try.prog 24 R b n D) : ∃ es, D = .map es ∧ es.Pairwise (fun p q => p.1 ≠ q.1) ∧ ∀ p ∈ es, ∃ k : Nat, p.1 = .int .u64 (k : Int) := by
  obtain ⟨es, hD, hap, _⟩ := h.entries K64
  refine ⟨es, hD, hap, fun p hp => ?_⟩
  obtain ⟨es0, clock, hb, F, hs, hD'⟩ := h
  rw [hD] at hD'
  injection hD' with hD'
  rw [hD', mem_sorted] at hp
  obtain ⟨v, hv⟩ := fit_keys F p hp
  obtain ⟨x, _, e, hw⟩ := keyOf_int_inv Try.underlying24 hv
  obtain ⟨k, rfl, _⟩ := nat_u64 hw
  exact ⟨k, e⟩
theorem RdM.entry {H : Type} {el : Nat → DataW H} {ok : Nat → Prop} {es : List (Lit × DataW H)} {f : Nat → Option Nat} (r : RdM el ok (.map es) f) (hap : es.Pairwise (fun p q => p.1 ≠ q.1)) {k : Nat} {d : DataW H} (hm : ((.int .u64 (k : Int) : Lit), d) ∈ es) : ∃ v, f k = some v ∧ d = el v := by
  have hat := fun z => WideAt.atKey_mem (H := H) z (show WideAt.IsKeyLit (.int .u64 (k : Int)) by trivial) hap hm
  have hh := has_true_of_atKey hat
  rw [r.has k] at hh
  obtain ⟨v, hv⟩ := Option.isSome_iff_exists.1 hh
  exact ⟨v, hv, (hat .nil).symm.trans (r.val k v hv .nil)⟩
theorem RdM.key_mem {H : Type} {el : Nat → DataW H} {ok : Nat → Prop} {es : List (Lit × DataW H)} {f : Nat → Option Nat} (r : RdM el ok (.map es) f) (hap : es.Pairwise (fun p q => p.1 ≠ q.1)) (hks : ∀ p ∈ es, ∃ k : Nat, p.1 = .int .u64 (k : Int)) (x : Lit) : x ∈ es.map Prod.fst ↔ ∃ k : Nat, x = .int .u64 (k : Int) ∧ (f k).isSome = true := by
  constructor
  · intro hx
    obtain ⟨⟨q, d⟩, hp, rfl⟩ := List.mem_map.1 hx
    obtain ⟨k, rfl⟩ := hks _ hp
    obtain ⟨v, hv, _⟩ := r.entry hap hp
    exact ⟨k, rfl, by rw [hv]; rfl⟩
  · rintro ⟨k, rfl, hk⟩
    have hh := r.has k
    rw [hk] at hh
    obtain ⟨p, hp, hs⟩ := List.any_eq_true.1 (show es.any (fun p => p.1.sameKey (.int .u64 (k : Int))) = true from hh)
    rw [← WideAt.sameKey_eq hs]
    exact List.mem_map.2 ⟨p, hp, rfl⟩
theorem size_like {H : Type} {el el' : Nat → DataW H} {ok ok' : Nat → Prop} {es es' : List (Lit × DataW H)} {f f' : Nat → Option Nat} (r : RdM el ok (.map es) f) (r' : RdM el' ok' (.map es') f') (hap : es.Pairwise (fun p q => p.1 ≠ q.1)) (hap' : es'.Pairwise (fun p q => p.1 ≠ q.1)) (hks : ∀ p ∈ es, ∃ k : Nat, p.1 = .int .u64 (k : Int)) (hks' : ∀ p ∈ es', ∃ k : Nat, p.1 = .int .u64 (k : Int)) (h : ∀ k, (f k).isSome = (f' k).isSome) : es.length = es'.length := by
  have n1 : (es.map Prod.fst).Nodup := List.pairwise_map.2 hap
  have n2 : (es'.map Prod.fst).Nodup := List.pairwise_map.2 hap'
  have hp := (List.perm_ext_iff_of_nodup n1 n2).2 (fun x => by
    rw [r.key_mem hap hks x, r'.key_mem hap' hks' x]
    constructor
    · rintro ⟨k, e, q⟩; exact ⟨k, e, by rw [← h k]; exact q⟩
    · rintro ⟨k, e, q⟩; exact ⟨k, e, by rw [h k]; exact q⟩)
  have := hp.length_eq
  simpa using this
def eqU : DataW Unit → DataW Unit → Bool
  | .lit (.int _ a), .lit (.int _ b) => a == b
  | _, _ => false
theorem eqU_el (a b : Nat) : eqU (elU a) (elU b) = decide (a = b) := by
  simp [eqU, elU]
  by_cases h : a = b
  · subst h; simp
  · have q : ¬ (a : Int) = (b : Int) := by omega
    simp [h, q]
theorem eq_like {D1 D2 : DataW Unit} {W W2 : World} {b1 b2 n1 n2 : Nat} (h1 : W.ownsMap Try.prog 24 (plainElem Try.prog 24) b1 n1 D1) (h2 : W2.ownsMap Try.prog 24 (plainElem Try.prog 24) b2 n2 D2) {ok : Nat → Prop} {f : Nat → Option Nat} (r1 : RdM elU ok D1 f) (r2 : RdM elU ok D2 f) : Lib.equalFuncD eqU D1 D2 = true := by
  obtain ⟨es1, rfl, hap1, hks1⟩ := key_shape h1
  obtain ⟨es2, rfl, hap2, hks2⟩ := key_shape h2
  unfold Lib.equalFuncD
  rw [decide_eq_true (show Maps.size (.map es1) = Maps.size (.map es2) from size_like r1 r2 hap1 hap2 hks1 hks2 (fun _ => rfl)), Bool.true_and]
  refine List.all_eq_true.2 (fun p hp => ?_)
  obtain ⟨q, d⟩ := p
  obtain ⟨k, e⟩ := hks1 _ hp
  simp only at e
  subst e
  obtain ⟨v, hv, rfl⟩ := r1.entry hap1 hp
  unfold Lib.goodD
  simp only
  rw [r2.has k, hv, r2.val k v hv, eqU_el]
  simp
theorem neq_u (W : World) (x y : Value) (xd yd : DataW Unit) (xp yp : List MemPlace) (hx : plainElem Try.prog 24 x = some (xd, xp)) (hy : plainElem Try.prog 24 y = some (yd, yp)) :
    (binOp .neq 24 x y).run Try.prog W = .ok (.bool (!eqU xd yd)) W ∧ ∀ (a b : Operand), (eqGuard .neq 24 a b x y).run Try.prog W = .ok () W := by
  obtain ⟨a, rfl, e1, _⟩ := plainElem_int_inv Try.underlying24 hx
  obtain ⟨b, rfl, e2, _⟩ := plainElem_int_inv Try.underlying24 hy
  injection e1 with e1 _
  injection e2 with e2 _
  subst e1 e2
  refine ⟨?_, fun _ _ => by rw [eqGuard_at_int]; rfl⟩
  simp [go_sem, eqU, binOp]
  rfl
/-- maps.Equal of two contents, nil ones too. -/
theorem equal_any {W : World} {p1 p2 : Option Nat} {D1 D2 : DataW Unit} (h1 : SrcOf Try.prog 24 (plainElem Try.prog 24) W p1 D1) (h2 : SrcOf Try.prog 24 (plainElem Try.prog 24) W p2 D2) :
    Calls Try.prog 20 #[.map p1, .map p2] W fun e W' => e = .returned (.bool (Lib.equalFuncD eqU D1 D2)) ∧ W.grownBy W' none :=
  AnyEq.maps_Equal_opt Try.laysME K64 (plainElem Try.prog 24) (plainElem Try.prog 24) eqU p1 p2 D1 D2 W h1 h2 (.int .u64 0) zeroU (.lit (.int .u64 0)) [] (plainElem_int (H := Unit) Try.underlying24 (show (Lit.int .u64 0).wf = true by decide)) neq_u
end Go.Proofs.Ytgddedoinhgocaa
