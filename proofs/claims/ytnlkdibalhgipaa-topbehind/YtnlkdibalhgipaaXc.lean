/- The law's own map: handles and lists of pairs; rows of spans and of numbers. -/
import Derived.Test.YtnlkdibalhgipaaXb
import Derived.Test.YtnlkdibalhgipaaXp
import Derived.Sort.KeysCollected
namespace Go.Proofs.Ytnlkdibalhgipaa
open Go.RowKit Go.Maps
set_option linter.unusedVariables false

def heldV (v : Value) : Option (DataW Value × List MemPlace) := match v with
  | .slice p l c => some (.held (.slice p l c), [])
  | _ => none
def elV (sv : Nat → Value) (c : Nat) : DataW Value := .held (sv c)
def isSl (v : Value) : Prop := ∃ p l c, v = .slice p l c
def domF (q : Nat → Bool) : Nat → Option Nat := fun k => if q k = true then some k else none
def HM (W : World) (b n : Nat) (q : Nat → Bool) (sv : Nat → Value) : Prop := MapR heldV (elV sv) (fun c => isSl (sv c)) W b n (domF q)
def setQ (q : Nat → Bool) (k : Nat) (x : Bool) : Nat → Bool := fun j => if j = k then x else q j
def setV (sv : Nat → Value) (k : Nat) (v : Value) : Nat → Value := fun j => if j = k then v else sv j
theorem setQ_same (q : Nat → Bool) (k : Nat) (x : Bool) : setQ q k x k = x := if_pos rfl
theorem setQ_other (q : Nat → Bool) {k j : Nat} (x : Bool) (h : j ≠ k) : setQ q k x j = q j := if_neg h
theorem setV_same (q : Nat → Value) (k : Nat) (x : Value) : setV q k x k = x := if_pos rfl
theorem setV_other (q : Nat → Value) {k j : Nat} (x : Value) (h : j ≠ k) : setV q k x j = q j := if_neg h
theorem domF_some {q : Nat → Bool} {k v : Nat} (h : domF q k = some v) : q k = true ∧ v = k := by
  unfold domF at h
  by_cases e : q k = true
  · rw [if_pos e] at h; injection h with h; exact ⟨e, h.symm⟩
  · rw [if_neg e] at h; cases h
theorem domF_isSome (q : Nat → Bool) (k : Nat) : (domF q k).isSome = q k := by
  unfold domF
  cases h : q k <;> simp
theorem domF_set (q : Nat → Bool) (k : Nat) : updO (domF q) k (some k) = domF (setQ q k true) := by
  funext j
  by_cases e : j = k
  · subst e; rw [updO_same]; unfold domF; rw [setQ_same]; simp
  · rw [updO_other _ _ e]; unfold domF; rw [setQ_other _ _ e]
theorem domF_unset (q : Nat → Bool) (k : Nat) : updO (domF q) k none = domF (setQ q k false) := by
  funext j
  by_cases e : j = k
  · subst e; rw [updO_same]; unfold domF; rw [setQ_same]; simp
  · rw [updO_other _ _ e]; unfold domF; rw [setQ_other _ _ e]
theorem HM.made (W : World) (sv : Nat → Value) : HM (W.alloc (.map #[] 0)) W.heap.size 0 (fun _ => false) sv := by
  have e : (fun _ => none : Nat → Option Nat) = domF (fun _ => false) := by funext j; simp [domF]
  unfold HM
  rw [← e]
  exact MapR.made _ _ _ W
theorem HM.put {W : World} {b n : Nat} {q : Nat → Bool} {sv : Nat → Value} (h : HM W b n q sv) (hn : n < maxLen) {k : Nat} (hk : k < 18446744073709551616) (hq : q k = false) (p : Option Addr) (l c : Nat) :
    ∃ W', (Instr.mapUpdate 29 (.map (some b)) (.int .u64 (k : Int)) (.slice p l c)).run Try.prog W = .ok () W' ∧ HM W' b (n + 1) (setQ q k true) (setV sv k (.slice p l c)) ∧ Chg (fun i => i = b) W W' := by
  obtain ⟨D, ho, r⟩ := h
  have r' : RdM (elV (setV sv k (.slice p l c))) (fun x => isSl (setV sv k (.slice p l c) x)) D (domF q) := ⟨r.has, fun j v hj z => by
    obtain ⟨h1, rfl⟩ := domF_some hj
    have ne : v ≠ k := fun e => by subst e; rw [hq] at h1; cases h1
    rw [r.val v v hj z]
    unfold elV
    rw [setV_other _ _ ne], fun j v hj => by
    obtain ⟨h1, rfl⟩ := domF_some hj
    have ne : v ≠ k := fun e => by subst e; rw [hq] at h1; cases h1
    refine ⟨(r.lt v v hj).1, ?_⟩
    rw [setV_other _ _ ne]
    exact (r.lt v v hj).2⟩
  obtain ⟨W', h1, h2, h3⟩ := MapR.putR (R := heldV) ⟨D, ho, r'⟩ Try.underlying29 hn hk (v := k) (val := .slice p l c) (ps := []) (by rw [setV_same]; exact ⟨p, l, c, rfl⟩) (by simp [heldV, elV, setV_same])
  refine ⟨W', h1, ?_, h3⟩
  unfold HM
  rw [← domF_set]
  exact h2
theorem HM.del {W : World} {b n : Nat} {q : Nat → Bool} {sv : Nat → Value} (h : HM W b n q sv) {k : Nat} (hk : k < 18446744073709551616) (ty : TypeId) :
    ∃ W', (Builtin.delete_ #[29, 30] ty #[.map (some b), .int .u64 (k : Int)]).run Try.prog W = .ok (.tuple #[]) W' ∧ HM W' b n (setQ q k false) sv ∧ Chg (fun i => i = b) W W' := by
  obtain ⟨W', h1, h2, h3⟩ := MapR.delR (R := heldV) h Try.underlying29 hk ty
  refine ⟨W', h1, ?_, h3⟩
  unfold HM
  rw [← domF_unset]
  exact h2
theorem zeroPs (w : World) : (zeroValue 31).run Try.prog w = .ok (.slice none 0 0) w := by kernel_rfl
theorem HM.look {W : World} {b n : Nat} {q : Nat → Bool} {sv : Nat → Value} (h : HM W b n q sv) {k : Nat} (hk : k < 18446744073709551616) (hq : q k = true) :
    (Instr.lookup 29 (.map (some b)) (.int .u64 (k : Int)) false).run Try.prog W = .ok (sv k) W := by
  obtain ⟨D, h, r⟩ := h
  have hf : domF q k = some k := by unfold domF; rw [if_pos hq]
  obtain ⟨v, ps, hr, hv⟩ := h.lookup K64 Try.underlying29 (zeroPs W) (show heldV (.slice none 0 0) = some (.held (.slice none 0 0), []) from rfl) (key64 hk)
  rw [hr]
  rw [r.val k k hf] at hv
  cases v <;> simp [heldV, elV] at hv
  rw [hv.1]
theorem HM.len {W : World} {b n : Nat} {q : Nat → Bool} {sv : Nat → Value} (h : HM W b n q sv) {ss : List Nat} (nd : ss.Nodup) (hm : ∀ x, x ∈ ss ↔ q x = true) (ty : TypeId) :
    (Builtin.len_ #[29] ty #[.map (some b)]).run Try.prog W = .ok (.int .i64 (ss.length : Int)) W := by
  obtain ⟨D, h, r⟩ := h
  rw [h.len Try.underlying29 ty]
  have e : Maps.size D = ss.length := by
    obtain ⟨es, hD, hpw, _⟩ := h.entries K64
    obtain ⟨es', hD', hko⟩ := h.keysOf
    obtain rfl : es = es' := by rw [hD] at hD'; simpa using hD'
    subst hD
    have hkey : ∀ p ∈ es, ∃ x : Nat, p.1 = .int .u64 (x : Int) := fun p hp => by
      obtain ⟨v, hv⟩ := hko p hp
      obtain ⟨x, _, hx, _⟩ := keyOf_u64 hv
      exact ⟨x, hx⟩
    let kn : Lit → Nat := fun l => match l with
      | .int _ a => a.toNat
      | _ => 0
    have nd2 : (es.map fun p => kn p.1).Nodup := by
      refine List.pairwise_map.2 (hpw.imp_of_mem fun {p p'} hp hp' hne e => hne ?_)
      obtain ⟨a, ha⟩ := hkey p hp
      obtain ⟨a', ha'⟩ := hkey p' hp'
      rw [ha, ha'] at e ⊢
      simp [kn] at e
      rw [e]
    have pm : ss.Perm (es.map fun p => kn p.1) := by
      refine (List.perm_ext_iff_of_nodup nd nd2).2 fun x => ?_
      rw [hm x, ← domF_isSome q x, ← r.has x, has_eq, List.any_eq_true, List.mem_map]
      constructor
      · rintro ⟨p, hp, hs⟩
        obtain ⟨a, ha⟩ := hkey p hp
        rw [ha] at hs
        refine ⟨p, hp, ?_⟩
        rw [ha]
        simp [Lit.sameKey] at hs
        simp [kn]
        omega
      · rintro ⟨p, hp, hx⟩
        obtain ⟨a, ha⟩ := hkey p hp
        rw [ha] at hx
        simp [kn] at hx
        subst hx
        refine ⟨p, hp, ?_⟩
        rw [ha]
        simp [Lit.sameKey]
    rw [pm.length_eq, List.length_map]
    rfl
  rw [e]
theorem PRow.chgF {F : Nat → Prop} {W W' : World} {B : Nat} {v : Value} {l : List (Nat × Nat)} (h : PRow W B v l) (c : Chg F W W') (hn : ∀ g, v.ownBlock = some g → ¬ F g) : PRow W' B v l := by
  obtain ⟨⟨h0, h1⟩, h2⟩ := h
  refine ⟨⟨h0, ?_⟩, h2⟩
  rcases h1 with h1 | ⟨g, cap, cur, rfl, hB, hg, r1, r2, r3, r4⟩
  · exact .inl h1
  · exact .inr ⟨g, cap, cur, rfl, hB, (c.block g (lt_of hg) (hn g rfl)).trans hg, r1, r2, r3, r4⟩
theorem ownsRow_chg {F : Nat → Prop} {W W' : World} {B : Nat} {e : TypeId} {s : Nat} {v : Value} {n : Nat} {xs : List Value} (h : W.ownsRow B e s v n xs) (c : Chg F W W') (hn : ∀ g, v.ownBlock = some g → ¬ F g) : W'.ownsRow B e s v n xs := by
  obtain ⟨h0, h1⟩ := h
  refine ⟨h0, ?_⟩
  rcases h1 with h1 | ⟨g, cap, cur, rfl, hB, hg, r1, r2, r3, r4⟩
  · exact .inl h1
  · exact .inr ⟨g, cap, cur, rfl, hB, (c.block g (lt_of hg) (hn g rfl)).trans hg, r1, r2, r3, r4⟩
/-- A row's block is of its own type. -/
theorem ownsRow_is {W : World} {B : Nat} {e : TypeId} {s : Nat} {v : Value} {n : Nat} {xs : List Value} (h : W.ownsRow B e s v n xs) {g : Nat} (hg : v.ownBlock = some g) : B ≤ g ∧ ∃ cur, W.heap[g]? = some (.cells cur e (0, 0)) := by
  rcases h.2 with ⟨rfl, _⟩ | ⟨g', cap, cur, rfl, hB, hb, _⟩
  · simp [Value.ownBlock] at hg
  · obtain rfl : g' = g := by simpa [Value.ownBlock] using hg
    exact ⟨hB, cur, hb⟩
theorem row_not_map {H : Type} {R : Value → Option (DataW H × List MemPlace)} {el : Nat → DataW H} {ok : Nat → Prop} {W : World} {b n : Nat} {f : Nat → Option Nat} (h : MapR R el ok W b n f) {g : Nat} {cur : Array Value} {t : TypeId} (hg : W.heap[g]? = some (.cells cur t (0, 0))) : g ≠ b := by
  obtain ⟨es, c, hb⟩ := MapR.is h
  rintro rfl
  rw [hb] at hg
  cases hg
theorem row_not_row {W : World} {g g' : Nat} {cur cur' : Array Value} {t t' : TypeId} (hg : W.heap[g]? = some (.cells cur t (0, 0))) (hg' : W.heap[g']? = some (.cells cur' t' (0, 0))) (ht : t ≠ t') : g ≠ g' := by
  rintro rfl
  rw [hg] at hg'
  simp at hg'
  exact ht hg'.2
def flS (l : List Sp) : List Value := l.flatMap Sp.cells
theorem flS_length (l : List Sp) : (flS l).length = l.length * 4 := by
  induction l with
  | nil => rfl
  | cons x r ih => simp only [flS, List.flatMap_cons, List.length_append] at ih ⊢; rw [ih]; simp [Sp.cells]; omega
theorem flS_get : ∀ (l : List Sp) (i j : Nat) (s : Sp) (u : Value), l[i]? = some s → s.cells[j]? = some u → (flS l)[i * 4 + j]? = some u
  | [], i, j, s, u, h, _ => by simp at h
  | x :: r, 0, j, s, u, h, hu => by
    simp at h
    subst h
    have hj : j < x.cells.length := (List.getElem?_eq_some_iff.1 hu).1
    simp only [flS, List.flatMap_cons, Nat.zero_mul, Nat.zero_add]
    rw [List.getElem?_append_left hj]
    exact hu
  | x :: r, i + 1, j, s, u, h, hu => by
    simp at h
    have e : (i + 1) * 4 + j = x.cells.length + (i * 4 + j) := by simp [Sp.cells]; omega
    simp only [flS, List.flatMap_cons]
    rw [e, List.getElem?_append_right (by omega), Nat.add_sub_cancel_left]
    exact flS_get r i j s u h hu
theorem sreads_of {W : World} {B : Nat} {v : Value} {l : List Sp} (h : W.ownsRow B 43 4 v l.length (flS l)) : ∃ p c, v = .slice p l.length c ∧ SReads W p l := by
  rcases h.2 with ⟨rfl, e⟩ | ⟨g, cap, cur, rfl, hB, hg, _, _, _, ht⟩
  · obtain rfl := List.length_eq_zero_iff.1 e
    exact ⟨none, 0, rfl, .inl rfl⟩
  · refine ⟨_, cap, rfl, .inr ⟨g, 0, rfl, lt_of hg, fun i s hs j u hu => ?_⟩⟩
    have q := flS_get l i j s u hs hu
    have hi := (List.getElem?_eq_some_iff.1 hs).1
    have hj : j < s.cells.length := (List.getElem?_eq_some_iff.1 hu).1
    have hj4 : j < 4 := by simpa [Sp.cells] using hj
    rw [← ht, List.getElem?_take_of_lt (by omega)] at q
    rw [cell_of hg]
    simpa using q
theorem ireads_of {W : World} {B : Nat} {v : Value} {l : List Int} (h : W.ownsRow B 3 1 v l.length (l.map (Value.int .i64))) : ∃ p c, v = .slice p l.length c ∧ IReads W p l := by
  rcases h.2 with ⟨rfl, e⟩ | ⟨g, cap, cur, rfl, hB, hg, _, _, _, ht⟩
  · obtain rfl := List.length_eq_zero_iff.1 e
    exact ⟨none, 0, rfl, .inl rfl⟩
  · refine ⟨_, cap, rfl, .inr ⟨g, 0, rfl, lt_of hg, fun i x hx => ?_⟩⟩
    have hi := (List.getElem?_eq_some_iff.1 hx).1
    have q : (l.map (Value.int .i64))[i]? = some (.int .i64 x) := by simp [hx]
    rw [← ht, List.getElem?_take_of_lt (by omega)] at q
    rw [cell_of hg]
    simpa using q
end Go.Proofs.Ytnlkdibalhgipaa
