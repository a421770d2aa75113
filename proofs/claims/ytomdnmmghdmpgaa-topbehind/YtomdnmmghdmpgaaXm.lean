/- The law's own map: handles and lists of pairs; rows of spans and of numbers. -/
import Derived.Test.YtomdnmmghdmpgaaXb
import Derived.Test.YtomdnmmghdmpgaaXp
import Derived.Sort.KeysCollected
import Derived.Test.YtomdnmmghdmpgaaNm4
import Derived.SizedLaws
namespace Go.Proofs.Ytomdnmmghdmpgaa
open Go.RowKit Go.Maps
set_option linter.unusedVariables false

def heldV (v : Value) : Option (DataW Value × List MemPlace) := match v with
  | .slice p l c => some (.held (.slice p l c), [])
  | _ => none
def elV (sv : Nat → Value) (c : Nat) : DataW Value := .held (sv c)
def isSl (v : Value) : Prop := ∃ p l c, v = .slice p l c
def domF (q : Nat → Bool) : Nat → Option Nat := fun k => if q k = true then some k else none
def HM (W : World) (b n : Nat) (q : Nat → Bool) (sv : Nat → Value) : Prop := MapR heldV (elV sv) (fun c => isSl (sv c)) W b n (domF q)
def setQ (q : Nat → Bool) (k : Nat) (x : Bool) : Nat → Bool := fun j => if j = k then x else q j
def setV (sv : Nat → Value) (k : Nat) (v : Value) : Nat → Value := fun j => if j = k then v else sv j
theorem setQ_same (q : Nat → Bool) (k : Nat) (x : Bool) : setQ q k x k = x := if_pos rfl
theorem setQ_other (q : Nat → Bool) {k j : Nat} (x : Bool) (h : j ≠ k) : setQ q k x j = q j := if_neg h
theorem setV_same (q : Nat → Value) (k : Nat) (x : Value) : setV q k x k = x := if_pos rfl
theorem setV_other (q : Nat → Value) {k j : Nat} (x : Value) (h : j ≠ k) : setV q k x j = q j := if_neg h
theorem domF_some {q : Nat → Bool} {k v : Nat} (h : domF q k = some v) : q k = true ∧ v = k := by
  unfold domF at h
  by_cases e : q k = true
  · rw [if_pos e] at h; injection h with h; exact ⟨e, h.symm⟩
  · rw [if_neg e] at h; cases h
theorem domF_isSome (q : Nat → Bool) (k : Nat) : (domF q k).isSome = q k := by
  unfold domF
  cases h : q k <;> simp
theorem domF_set (q : Nat → Bool) (k : Nat) : updO (domF q) k (some k) = domF (setQ q k true) := by
  funext j
  by_cases e : j = k
  · subst e; rw [updO_same]; unfold domF; rw [setQ_same]; simp
  · rw [updO_other _ _ e]; unfold domF; rw [setQ_other _ _ e]
theorem domF_unset (q : Nat → Bool) (k : Nat) : updO (domF q) k none = domF (setQ q k false) := by
  funext j
  by_cases e : j = k
  · subst e; rw [updO_same]; unfold domF; rw [setQ_same]; simp
  · rw [updO_other _ _ e]; unfold domF; rw [setQ_other _ _ e]
theorem HM.made (W : World) (sv : Nat → Value) : HM (W.alloc (.map #[] 0)) W.heap.size 0 (fun _ => false) sv := by
  have e : (fun _ => none : Nat → Option Nat) = domF (fun _ => false) := by funext j; simp [domF]
  unfold HM
  rw [← e]
  exact MapR.made _ _ _ W
theorem HM.put {W : World} {b n : Nat} {q : Nat → Bool} {sv : Nat → Value} (h : HM W b n q sv) (hn : n < maxLen) {k : Nat} (hk : k < 18446744073709551616) (hq : q k = false) (p : Option Addr) (l c : Nat) :
    ∃ W', (Instr.mapUpdate 29 (.map (some b)) (.int .u64 (k : Int)) (.slice p l c)).run Try.prog W = .ok () W' ∧ HM W' b (n + 1) (setQ q k true) (setV sv k (.slice p l c)) ∧ Chg (fun i => i = b) W W' := by
  obtain ⟨D, ho, r⟩ := h
  have r' : RdM (elV (setV sv k (.slice p l c))) (fun x => isSl (setV sv k (.slice p l c) x)) D (domF q) := ⟨r.has, fun j v hj z => by
    obtain ⟨h1, rfl⟩ := domF_some hj
    have ne : v ≠ k := fun e => by subst e; rw [hq] at h1; cases h1
    rw [r.val v v hj z]
    unfold elV
    rw [setV_other _ _ ne], fun j v hj => by
    obtain ⟨h1, rfl⟩ := domF_some hj
    have ne : v ≠ k := fun e => by subst e; rw [hq] at h1; cases h1
    refine ⟨(r.lt v v hj).1, ?_⟩
    rw [setV_other _ _ ne]
    exact (r.lt v v hj).2⟩
  obtain ⟨W', h1, h2, h3⟩ := MapR.putR (R := heldV) ⟨D, ho, r'⟩ Try.underlying29 hn hk (v := k) (val := .slice p l c) (ps := []) (by rw [setV_same]; exact ⟨p, l, c, rfl⟩) (by simp [heldV, elV, setV_same])
  refine ⟨W', h1, ?_, h3⟩
  unfold HM
  rw [← domF_set]
  exact h2
theorem HM.del {W : World} {b n : Nat} {q : Nat → Bool} {sv : Nat → Value} (h : HM W b n q sv) {k : Nat} (hk : k < 18446744073709551616) (ty : TypeId) :
    ∃ W', (Builtin.delete_ #[29, 30] ty #[.map (some b), .int .u64 (k : Int)]).run Try.prog W = .ok (.tuple #[]) W' ∧ HM W' b n (setQ q k false) sv ∧ Chg (fun i => i = b) W W' := by
  obtain ⟨W', h1, h2, h3⟩ := MapR.delR (R := heldV) h Try.underlying29 hk ty
  refine ⟨W', h1, ?_, h3⟩
  unfold HM
  rw [← domF_unset]
  exact h2
theorem zeroPs (w : World) : (zeroValue 31).run Try.prog w = .ok (.slice none 0 0) w := by kernel_rfl
theorem HM.look {W : World} {b n : Nat} {q : Nat → Bool} {sv : Nat → Value} (h : HM W b n q sv) {k : Nat} (hk : k < 18446744073709551616) (hq : q k = true) :
    (Instr.lookup 29 (.map (some b)) (.int .u64 (k : Int)) false).run Try.prog W = .ok (sv k) W := by
  obtain ⟨D, h, r⟩ := h
  have hf : domF q k = some k := by unfold domF; rw [if_pos hq]
  obtain ⟨v, ps, hr, hv⟩ := h.lookup K64 Try.underlying29 (zeroPs W) (show heldV (.slice none 0 0) = some (.held (.slice none 0 0), []) from rfl) (key64 hk)
  rw [hr]
  rw [r.val k k hf] at hv
  cases v <;> simp [heldV, elV] at hv
  rw [hv.1]
theorem HM.len {W : World} {b n : Nat} {q : Nat → Bool} {sv : Nat → Value} (h : HM W b n q sv) {ss : List Nat} (nd : ss.Nodup) (hm : ∀ x, x ∈ ss ↔ q x = true) (ty : TypeId) :
    (Builtin.len_ #[29] ty #[.map (some b)]).run Try.prog W = .ok (.int .i64 (ss.length : Int)) W := by
  obtain ⟨D, h, r⟩ := h
  rw [h.len Try.underlying29 ty]
  have e : Maps.size D = ss.length := by
    obtain ⟨es, hD, hpw, _⟩ := h.entries K64
    obtain ⟨es', hD', hko⟩ := h.keysOf
    obtain rfl : es = es' := by rw [hD] at hD'; simpa using hD'
    subst hD
    have hkey : ∀ p ∈ es, ∃ x : Nat, p.1 = .int .u64 (x : Int) := fun p hp => by
      obtain ⟨v, hv⟩ := hko p hp
      obtain ⟨x, _, hx, _⟩ := keyOf_u64 hv
      exact ⟨x, hx⟩
    let kn : Lit → Nat := fun l => match l with
      | .int _ a => a.toNat
      | _ => 0
    have nd2 : (es.map fun p => kn p.1).Nodup := by
      refine List.pairwise_map.2 (hpw.imp_of_mem fun {p p'} hp hp' hne e => hne ?_)
      obtain ⟨a, ha⟩ := hkey p hp
      obtain ⟨a', ha'⟩ := hkey p' hp'
      rw [ha, ha'] at e ⊢
      simp [kn] at e
      rw [e]
    have pm : ss.Perm (es.map fun p => kn p.1) := by
      refine (List.perm_ext_iff_of_nodup nd nd2).2 fun x => ?_
      rw [hm x, ← domF_isSome q x, ← r.has x, has_eq, List.any_eq_true, List.mem_map]
      constructor
      · rintro ⟨p, hp, hs⟩
        obtain ⟨a, ha⟩ := hkey p hp
        rw [ha] at hs
        refine ⟨p, hp, ?_⟩
        rw [ha]
        simp [Lit.sameKey] at hs
        simp [kn]
        omega
      · rintro ⟨p, hp, hx⟩
        obtain ⟨a, ha⟩ := hkey p hp
        rw [ha] at hx
        simp [kn] at hx
        subst hx
        refine ⟨p, hp, ?_⟩
        rw [ha]
        simp [Lit.sameKey]
    rw [pm.length_eq, List.length_map]
    rfl
  rw [e]
theorem PRow.chgF {F : Nat → Prop} {W W' : World} {B : Nat} {v : Value} {l : List (Nat × Nat)} (h : PRow W B v l) (c : Chg F W W') (hn : ∀ g, v.ownBlock = some g → ¬ F g) : PRow W' B v l := by
  obtain ⟨⟨h0, h1⟩, h2⟩ := h
  refine ⟨⟨h0, ?_⟩, h2⟩
  rcases h1 with h1 | ⟨g, cap, cur, rfl, hB, hg, r1, r2, r3, r4⟩
  · exact .inl h1
  · exact .inr ⟨g, cap, cur, rfl, hB, (c.block g (lt_of hg) (hn g rfl)).trans hg, r1, r2, r3, r4⟩
theorem ownsRow_chg {F : Nat → Prop} {W W' : World} {B : Nat} {e : TypeId} {s : Nat} {v : Value} {n : Nat} {xs : List Value} (h : W.ownsRow B e s v n xs) (c : Chg F W W') (hn : ∀ g, v.ownBlock = some g → ¬ F g) : W'.ownsRow B e s v n xs := by
  obtain ⟨h0, h1⟩ := h
  refine ⟨h0, ?_⟩
  rcases h1 with h1 | ⟨g, cap, cur, rfl, hB, hg, r1, r2, r3, r4⟩
  · exact .inl h1
  · exact .inr ⟨g, cap, cur, rfl, hB, (c.block g (lt_of hg) (hn g rfl)).trans hg, r1, r2, r3, r4⟩
/-- A row's block is of its own type. -/
theorem ownsRow_is {W : World} {B : Nat} {e : TypeId} {s : Nat} {v : Value} {n : Nat} {xs : List Value} (h : W.ownsRow B e s v n xs) {g : Nat} (hg : v.ownBlock = some g) : B ≤ g ∧ ∃ cur, W.heap[g]? = some (.cells cur e (0, 0)) := by
  rcases h.2 with ⟨rfl, _⟩ | ⟨g', cap, cur, rfl, hB, hb, _⟩
  · simp [Value.ownBlock] at hg
  · obtain rfl : g' = g := by simpa [Value.ownBlock] using hg
    exact ⟨hB, cur, hb⟩
theorem row_not_map {H : Type} {R : Value → Option (DataW H × List MemPlace)} {el : Nat → DataW H} {ok : Nat → Prop} {W : World} {b n : Nat} {f : Nat → Option Nat} (h : MapR R el ok W b n f) {g : Nat} {cur : Array Value} {t : TypeId} (hg : W.heap[g]? = some (.cells cur t (0, 0))) : g ≠ b := by
  obtain ⟨es, c, hb⟩ := MapR.is h
  rintro rfl
  rw [hb] at hg
  cases hg
theorem row_not_row {W : World} {g g' : Nat} {cur cur' : Array Value} {t t' : TypeId} (hg : W.heap[g]? = some (.cells cur t (0, 0))) (hg' : W.heap[g']? = some (.cells cur' t' (0, 0))) (ht : t ≠ t') : g ≠ g' := by
  rintro rfl
  rw [hg] at hg'
  simp at hg'
  exact ht hg'.2
def flS (l : List Sp) : List Value := l.flatMap Sp.cells
theorem flS_length (l : List Sp) : (flS l).length = l.length * 4 := by
  induction l with
  | nil => rfl
  | cons x r ih => simp only [flS, List.flatMap_cons, List.length_append] at ih ⊢; rw [ih]; simp [Sp.cells]; omega
theorem flS_get : ∀ (l : List Sp) (i j : Nat) (s : Sp) (u : Value), l[i]? = some s → s.cells[j]? = some u → (flS l)[i * 4 + j]? = some u
  | [], i, j, s, u, h, _ => by simp at h
  | x :: r, 0, j, s, u, h, hu => by
    simp at h
    subst h
    have hj : j < x.cells.length := (List.getElem?_eq_some_iff.1 hu).1
    simp only [flS, List.flatMap_cons, Nat.zero_mul, Nat.zero_add]
    rw [List.getElem?_append_left hj]
    exact hu
  | x :: r, i + 1, j, s, u, h, hu => by
    simp at h
    have e : (i + 1) * 4 + j = x.cells.length + (i * 4 + j) := by simp [Sp.cells]; omega
    simp only [flS, List.flatMap_cons]
    rw [e, List.getElem?_append_right (by omega), Nat.add_sub_cancel_left]
    exact flS_get r i j s u h hu
theorem sreads_of {W : World} {B : Nat} {v : Value} {l : List Sp} (h : W.ownsRow B 43 4 v l.length (flS l)) : ∃ p c, v = .slice p l.length c ∧ SReads W p l := by
  rcases h.2 with ⟨rfl, e⟩ | ⟨g, cap, cur, rfl, hB, hg, _, _, _, ht⟩
  · obtain rfl := List.length_eq_zero_iff.1 e
    exact ⟨none, 0, rfl, .inl rfl⟩
  · refine ⟨_, cap, rfl, .inr ⟨g, 0, rfl, lt_of hg, fun i s hs j u hu => ?_⟩⟩
    have q := flS_get l i j s u hs hu
    have hi := (List.getElem?_eq_some_iff.1 hs).1
    have hj : j < s.cells.length := (List.getElem?_eq_some_iff.1 hu).1
    have hj4 : j < 4 := by simpa [Sp.cells] using hj
    rw [← ht, List.getElem?_take_of_lt (by omega)] at q
    rw [cell_of hg]
    simpa using q
theorem ireads_of {W : World} {B : Nat} {v : Value} {l : List Int} (h : W.ownsRow B 3 1 v l.length (l.map (Value.int .i64))) : ∃ p c, v = .slice p l.length c ∧ IReads W p l := by
  rcases h.2 with ⟨rfl, e⟩ | ⟨g, cap, cur, rfl, hB, hg, _, _, _, ht⟩
  · obtain rfl := List.length_eq_zero_iff.1 e
    exact ⟨none, 0, rfl, .inl rfl⟩
  · refine ⟨_, cap, rfl, .inr ⟨g, 0, rfl, lt_of hg, fun i x hx => ?_⟩⟩
    have hi := (List.getElem?_eq_some_iff.1 hx).1
    have q : (l.map (Value.int .i64))[i]? = some (.int .i64 x) := by simp [hx]
    rw [← ht, List.getElem?_take_of_lt (by omega)] at q
    rw [cell_of hg]
    simpa using q
end Go.Proofs.Ytomdnmmghdmpgaa
/- TopBehind: what holds from round to round. -/
namespace Go.Proofs.Ytomdnmmghdmpgaa
open Go.RowKit Go.Maps
set_option linter.unusedVariables false

set_option maxRecDepth 100000 in
theorem new_q (W : World) : Calls Try.prog 4 #[.int .i64 4] W fun e W' => e = .returned (.tuple #[.pointer (some ⟨W.heap.size + 2, 0, none⟩), .int .i64 0]) ∧ MoAt W' (W.heap.size + 2) W.heap.size (W.heap.size + 1) 4 (fun _ => none) (fun _ => none) (fun _ _ => none) 0 ∧ Chg (fun _ => False) W W' := by
  have hmm := @run_makeMap Try.prog
  go_enter Try.func4, Try.ntmps4
  go_wp2_with fail
  go_ret2
  refine ⟨by simp, ⟨?_, ?_, ?_, fun k b hb => by simp at hb, by omega, by omega, by omega, fun k b hb => by simp at hb⟩, (((Chg.refl _ _).alloc _).alloc _).alloc _⟩
  · have e := heap_alloc_new ((W.alloc (.map #[] 0)).alloc (.map #[] 0)) (.cells #[.int .i64 4, .map (some W.heap.size), .map (some (W.heap.size + 1))] 56)
    rw [World.size_alloc, World.size_alloc] at e
    simpa using e
  · exact MapR.chg (F := fun _ => False) (MapR.made _ _ _ W) (((Chg.refl _ _).alloc _).alloc _) (fun x => x)
  · have e := MapR.made heldM elH (fun _ => True) (W.alloc (.map #[] 0))
    rw [World.size_alloc] at e
    exact MapR.chg (F := fun _ => False) e ((Chg.refl _ _).alloc _) (fun x => x)
/-- The model, the law's map, the lists in it, the two rows. -/
structure TB (W wr : World) (m nw hd b : Nat) (f h : Nat → Option Nat) (g : Nat → Nat → Option Nat) (q : Nat → Bool) (sv : Nat → Value) (n nq i5 i6 : Nat) (v5 v6 : Value) : Prop where
  mo : MoAt wr m nw hd 4 f h g n
  hm : HM wr b nq q sv
  pr : ∀ k bk, h k = some bk → q k = true → ∃ l, PRow wr W.heap.size (sv k) l ∧ Lists (g bk) 0 18446744073709551615 l
  r5 : wr.ownsRow W.heap.size 43 4 v5 i5 (flS (spsB i5))
  r6 : wr.ownsRow W.heap.size 3 1 v6 i6 ((ordB i6).map (Value.int .i64))
  lo : W.heap.size ≤ m ∧ W.heap.size ≤ nw ∧ W.heap.size ≤ hd ∧ W.heap.size ≤ b
  nb : b ≠ m ∧ b ≠ nw ∧ b ≠ hd
  pb : ∀ k bk, h k = some bk → bk ≠ b
  chg : Chg (fun _ => False) W wr
theorem TB.quiet {W wr wx : World} {m nw hd b : Nat} {f h : Nat → Option Nat} {g : Nat → Nat → Option Nat} {q : Nat → Bool} {sv : Nat → Value} {n nq i5 i6 : Nat} {v5 v6 : Value} (H : TB W wr m nw hd b f h g q sv n nq i5 i6 v5 v6) (c : Chg (fun _ => False) wr wx) : TB W wx m nw hd b f h g q sv n nq i5 i6 v5 v6 :=
  ⟨H.mo.quiet c, MapR.chg H.hm c (fun x => x), fun k bk hk hq => by
    obtain ⟨l, h1, h2⟩ := H.pr k bk hk hq
    exact ⟨l, h1.chgF c (fun _ _ x => x), h2⟩, ownsRow_chg H.r5 c (fun _ _ x => x), ownsRow_chg H.r6 c (fun _ _ x => x), H.lo, H.nb, H.pb, H.chg.trans c (fun _ _ x => x) (fun _ _ x => x)⟩
/-- Behind a Do. -/
theorem TB.did {W wr wx : World} {m nw hd b : Nat} {f h f' h' : Nat → Option Nat} {g g' : Nat → Nat → Option Nat} {q : Nat → Bool} {sv : Nat → Value} {n n' nq i5 i6 : Nat} {v5 v6 : Value} (H : TB W wr m nw hd b f h g q sv n nq i5 i6 v5 v6) (hm : MoAt wx m nw hd 4 f' h' g' n') (c : Chg (fun i => i = nw ∨ i = hd) wr wx)
    (hh : ∀ k bk, h' k = some bk → q k = true → h k = some bk ∧ g' bk = g bk) (hb' : ∀ k bk, h' k = some bk → bk ≠ b) : TB W wx m nw hd b f' h' g' q sv n' nq i5 i6 v5 v6 := by
  have nl := H.lo
  have nn := H.nb
  have apart : ∀ {t : TypeId} {gx : Nat} {cur : Array Value}, wr.heap[gx]? = some (.cells cur t (0, 0)) → ¬ (gx = nw ∨ gx = hd) := fun hg e => by
    rcases e with e | e
    · exact row_not_map H.mo.now hg e
    · exact row_not_map H.mo.held hg e
  refine ⟨hm, MapR.chg H.hm c (by omega), fun k bk hk hq => ?_, ?_, ?_, H.lo, H.nb, hb', H.chg.trans c (fun _ _ x => x) (fun i hi e => by omega)⟩
  · obtain ⟨e1, e2⟩ := hh k bk hk hq
    obtain ⟨l, h1, h2⟩ := H.pr k bk e1 hq
    rw [e2]
    exact ⟨l, h1.chgF c (fun gx hg => by obtain ⟨_, cur, hc⟩ := ownsRow_is h1.1 hg; exact apart hc), h2⟩
  · exact ownsRow_chg H.r5 c (fun gx hg => by obtain ⟨_, cur, hc⟩ := ownsRow_is H.r5 hg; exact apart hc)
  · exact ownsRow_chg H.r6 c (fun gx hg => by obtain ⟨_, cur, hc⟩ := ownsRow_is H.r6 hg; exact apart hc)
/-- Behind a store in the law's map, or a delete. -/
theorem TB.mapped {W wr wx : World} {m nw hd b : Nat} {f h : Nat → Option Nat} {g : Nat → Nat → Option Nat} {q q' : Nat → Bool} {sv sv' : Nat → Value} {n nq nq' i5 i6 : Nat} {v5 v6 : Value} (H : TB W wr m nw hd b f h g q sv n nq i5 i6 v5 v6) (hm : HM wx b nq' q' sv') (c : Chg (fun i => i = b) wr wx)
    (hp : ∀ k bk, h k = some bk → q' k = true → ∃ l, PRow wr W.heap.size (sv' k) l ∧ Lists (g bk) 0 18446744073709551615 l) : TB W wx m nw hd b f h g q' sv' n nq' i5 i6 v5 v6 := by
  have nl := H.lo
  have nn := H.nb
  have apart : ∀ {t : TypeId} {gx : Nat} {cur : Array Value}, wr.heap[gx]? = some (.cells cur t (0, 0)) → ¬ (gx = b) := fun hg e => row_not_map H.hm hg e
  refine ⟨H.mo.chg c (by omega) (by omega) (by omega) (fun k bk hk e => H.pb k bk hk e), hm, fun k bk hk hq => ?_, ?_, ?_, H.lo, H.nb, H.pb, H.chg.trans c (fun _ _ x => x) (fun i hi e => by omega)⟩
  · obtain ⟨l, h1, h2⟩ := hp k bk hk hq
    exact ⟨l, h1.chgF c (fun gx hg => by obtain ⟨_, cur, hc⟩ := ownsRow_is h1.1 hg; exact apart hc), h2⟩
  · exact ownsRow_chg H.r5 c (fun gx hg => by obtain ⟨_, cur, hc⟩ := ownsRow_is H.r5 hg; exact apart hc)
  · exact ownsRow_chg H.r6 c (fun gx hg => by obtain ⟨_, cur, hc⟩ := ownsRow_is H.r6 hg; exact apart hc)
theorem TB.mono {W wr : World} {m nw hd b : Nat} {f h : Nat → Option Nat} {g : Nat → Nat → Option Nat} {q : Nat → Bool} {sv : Nat → Value} {n nq nq' i5 i6 : Nat} {v5 v6 : Value} (H : TB W wr m nw hd b f h g q sv n nq i5 i6 v5 v6) (hn : nq ≤ nq') : TB W wr m nw hd b f h g q sv n nq' i5 i6 v5 v6 :=
  { H with hm := MapR.mono H.hm hn }
/-- A row's block is none of the model's, nor the law's map. -/
theorem TB.apart {W wr : World} {m nw hd b : Nat} {f h : Nat → Option Nat} {g : Nat → Nat → Option Nat} {q : Nat → Bool} {sv : Nat → Value} {n nq i5 i6 : Nat} {v5 v6 : Value} (H : TB W wr m nw hd b f h g q sv n nq i5 i6 v5 v6) {t : TypeId} {gx : Nat} {cur : Array Value} (hg : wr.heap[gx]? = some (.cells cur t (0, 0))) (ht : t ≠ 56) : gx ≠ m ∧ gx ≠ nw ∧ gx ≠ hd ∧ gx ≠ b ∧ ∀ k bk, h k = some bk → gx ≠ bk :=
  ⟨row_not_row hg H.mo.md ht, row_not_map H.mo.now hg, row_not_map H.mo.held hg, row_not_map H.hm hg, fun k bk hk => row_not_map (H.mo.pic k bk hk) hg⟩
/-- Behind an append to the spans. -/
theorem TB.span {W wr wx : World} {m nw hd b : Nat} {f h : Nat → Option Nat} {g : Nat → Nat → Option Nat} {q : Nat → Bool} {sv : Nat → Value} {n nq i5 i6 : Nat} {v5 v5' v6 : Value} {o : Obj} (H : TB W wr m nw hd b f h g q sv n nq i5 i6 v5 v6) (hr : wx.ownsRow W.heap.size 43 4 v5' (i5 + 1) (flS (spsB i5) ++ (spB i5).cells)) (hg : (wr.alloc o).grownBy wx v5.ownBlock) : TB W wx m nw hd b f h g q sv n nq (i5 + 1) i6 v5' v6 := by
  have c : Chg (fun i => v5.ownBlock = some i) wr wx := ((Chg.refl (fun i => v5.ownBlock = some i) wr).alloc o).trans (grown_chg (F := fun i => v5.ownBlock = some i) hg (fun k e => e)) (fun _ _ x => x) (fun _ _ x => x)
  have ap : ∀ i, v5.ownBlock = some i → W.heap.size ≤ i ∧ i ≠ m ∧ i ≠ nw ∧ i ≠ hd ∧ i ≠ b ∧ ∀ k bk, h k = some bk → i ≠ bk := fun i e => by
    obtain ⟨hB, cur, hc⟩ := ownsRow_is H.r5 e
    exact ⟨hB, H.apart hc (by decide)⟩
  have ty : ∀ {t : TypeId} {gx : Nat} {cur : Array Value}, wr.heap[gx]? = some (.cells cur t (0, 0)) → t ≠ 43 → ¬ (v5.ownBlock = some gx) := fun hg ht e => by
    obtain ⟨_, cur, hc⟩ := ownsRow_is H.r5 e
    exact row_not_row hg hc ht rfl
  refine ⟨H.mo.chg c (fun e => (ap _ e).2.1 rfl) (fun e => (ap _ e).2.2.1 rfl) (fun e => (ap _ e).2.2.2.1 rfl) (fun k bk hk e => (ap _ e).2.2.2.2.2 k bk hk rfl), MapR.chg H.hm c (fun e => (ap _ e).2.2.2.2.1 rfl), fun k bk hk hq => ?_, ?_, ?_, H.lo, H.nb, H.pb, H.chg.trans c (fun _ _ x => x) (fun i hi e => by have := (ap _ e).1; omega)⟩
  · obtain ⟨l, h1, h2⟩ := H.pr k bk hk hq
    exact ⟨l, h1.chgF c (fun gx hg => by obtain ⟨_, cur, hc⟩ := ownsRow_is h1.1 hg; exact ty hc (by decide)), h2⟩
  · rw [spsB_succ]
    have e : flS (spsB i5 ++ [spB i5]) = flS (spsB i5) ++ (spB i5).cells := by simp [flS]
    rw [e]
    exact hr
  · exact ownsRow_chg H.r6 c (fun gx hg => by obtain ⟨_, cur, hc⟩ := ownsRow_is H.r6 hg; exact ty hc (by decide))
theorem TB.num {W wr wx : World} {m nw hd b : Nat} {f h : Nat → Option Nat} {g : Nat → Nat → Option Nat} {q : Nat → Bool} {sv : Nat → Value} {n nq i5 i6 : Nat} {v5 v6 v6' : Value} {o : Obj} (H : TB W wr m nw hd b f h g q sv n nq i5 i6 v5 v6) (hr : wx.ownsRow W.heap.size 3 1 v6' (i6 + 1) ((ordB i6).map (Value.int .i64) ++ [.int .i64 (i6 : Int)])) (hg : (wr.alloc o).grownBy wx v6.ownBlock) : TB W wx m nw hd b f h g q sv n nq i5 (i6 + 1) v5 v6' := by
  have c : Chg (fun i => v6.ownBlock = some i) wr wx := ((Chg.refl (fun i => v6.ownBlock = some i) wr).alloc o).trans (grown_chg (F := fun i => v6.ownBlock = some i) hg (fun k e => e)) (fun _ _ x => x) (fun _ _ x => x)
  have ap : ∀ i, v6.ownBlock = some i → W.heap.size ≤ i ∧ i ≠ m ∧ i ≠ nw ∧ i ≠ hd ∧ i ≠ b ∧ ∀ k bk, h k = some bk → i ≠ bk := fun i e => by
    obtain ⟨hB, cur, hc⟩ := ownsRow_is H.r6 e
    exact ⟨hB, H.apart hc (by decide)⟩
  have ty : ∀ {t : TypeId} {gx : Nat} {cur : Array Value}, wr.heap[gx]? = some (.cells cur t (0, 0)) → t ≠ 3 → ¬ (v6.ownBlock = some gx) := fun hg ht e => by
    obtain ⟨_, cur, hc⟩ := ownsRow_is H.r6 e
    exact row_not_row hg hc ht rfl
  refine ⟨H.mo.chg c (fun e => (ap _ e).2.1 rfl) (fun e => (ap _ e).2.2.1 rfl) (fun e => (ap _ e).2.2.2.1 rfl) (fun k bk hk e => (ap _ e).2.2.2.2.2 k bk hk rfl), MapR.chg H.hm c (fun e => (ap _ e).2.2.2.2.1 rfl), fun k bk hk hq => ?_, ?_, ?_, H.lo, H.nb, H.pb, H.chg.trans c (fun _ _ x => x) (fun i hi e => by have := (ap _ e).1; omega)⟩
  · obtain ⟨l, h1, h2⟩ := H.pr k bk hk hq
    exact ⟨l, h1.chgF c (fun gx hg => by obtain ⟨_, cur, hc⟩ := ownsRow_is h1.1 hg; exact ty hc (by decide)), h2⟩
  · exact ownsRow_chg H.r5 c (fun gx hg => by obtain ⟨_, cur, hc⟩ := ownsRow_is H.r5 hg; exact ty hc (by decide))
  · rw [ordB_succ, List.map_append]
    exact hr
/-- What holds at the head of a round. -/
structure TR (W wr : World) (m nw hd b i : Nat) (v5 v6 : Value) : Prop where
  ex : ∃ f h g q sv, TB W wr m nw hd b f h g q sv i i i i v5 v6 ∧ (∀ k, q k = (h k).isSome) ∧ ∀ k bk, h k = some bk → 1 ≤ k ∧ k ≤ i
/-- Behind the round's Do: the law's map is not yet what it will be. -/
inductive Mid (W wx : World) (m nw hd b i : Nat) (v5 v6 : Value) (o : OpP) : Int → Prop
  | snap (f h : Nat → Option Nat) (g : Nat → Nat → Option Nat) (q : Nat → Bool) (sv : Nat → Value) (cl : Nat) (hk : o.kd = 5) (hb : TB W wx m nw hd b f (updO h (i + 1) (some cl)) (setG g cl f) q sv (i + 1) i i i v5 v6) (hq : ∀ k, q k = (h k).isSome) (hi : ∀ k bk, h k = some bk → 1 ≤ k ∧ k ≤ i) : Mid W wx m nw hd b i v5 v6 o 0
  | rel (f h : Nat → Option Nat) (g : Nat → Nat → Option Nat) (q : Nat → Bool) (sv : Nat → Value) (hk : o.kd = 6) (hb : TB W wx m nw hd b f (updO h o.hk none) g q sv (i + 1) i i i v5 v6) (hq : ∀ k, q k = (h k).isSome) (hi : ∀ k bk, h k = some bk → 1 ≤ k ∧ k ≤ i) : Mid W wx m nw hd b i v5 v6 o 0
  | other (e : Int) (f h : Nat → Option Nat) (g : Nat → Nat → Option Nat) (q : Nat → Bool) (sv : Nat → Value) (hk : o.kd ≠ 5) (he : o.kd = 6 → e ≠ 0) (hb : TB W wx m nw hd b f h g q sv (i + 1) i i i v5 v6) (hq : ∀ k, q k = (h k).isSome) (hi : ∀ k bk, h k = some bk → 1 ≤ k ∧ k ≤ i) : Mid W wx m nw hd b i v5 v6 o e
theorem TR.call {W wr : World} {m nw hd b i : Nat} {v5 v6 : Value} (H : TR W wr m nw hd b i v5 v6) {x : OpI} (hx : x.Ok W) {w : World} (hw : Chg (fun _ => False) wr w) (hi : i ≤ 2000) :
    Calls Try.prog 5 #[.pointer (some ⟨m, 0, none⟩), .agg #[.int .u8 x.o.kd, .int .u64 (x.o.k : Int), .int .u64 (x.o.v : Int), .int .u64 (x.o.od : Int), .int .u64 (x.o.hk : Int), .bool x.r5, .int .i64 x.r6, .int .i64 x.r7, .slice x.kp x.o.ks.length x.kc, .int .u64 (x.o.lo : Int), .int .u64 (x.o.hi : Int)], .int .u64 ((i + 1 : Nat) : Int)] w fun e w' => (∃ A p c, e = .returned (.agg (ansC A p c)) ∧ Mid W w' m nw hd b i v5 v6 x.o A.e) ∧ Chg (fun i => i = nw ∨ i = hd) w w' := by
  obtain ⟨f, h, g, q, sv, HB, hq, hk⟩ := H.ex
  have H' := HB.quiet hw
  refine (Do_all hx.ok (th := i + 1) (by omega) H'.mo (by omega) (by omega) (hx.ks.chg H'.chg (fun _ _ _ x => x)) rfl).mono ?_
  rintro e w' ⟨⟨p, c, rfl, _⟩, ⟨cl, hcl, hM⟩, hc⟩
  refine ⟨⟨_, p, c, rfl, ?_⟩, hc⟩
  have hlb : b < w.heap.size := MapR.lt H'.hm
  have hclb : cl ≠ b := by omega
  have hgb : ∀ k bk, h k = some bk → setG g cl f bk = g bk := fun k bk hkb => setG_other _ _ (by have := H'.mo.blk.2.2.2 k bk hkb; omega)
  have h0 : h (i + 1) = none := by
    cases e : h (i + 1) with
    | none => rfl
    | some bk => have := hk _ _ e; omega
  by_cases k5 : x.o.kd = 5
  · have eA : tellP 4 f (pcs h g) x.o (i + 1) = ⟨0, false, 0, false, i + 1, [], 0⟩ := by
      unfold tellP
      rw [if_neg (by omega), if_neg (by omega), if_pos k5, if_neg (by simp [pcs, h0])]
    rw [eA] at hM ⊢
    have eF : doF x.o ⟨0, false, 0, false, i + 1, [], 0⟩ f = f := by
      unfold doF
      rw [if_neg (by omega), if_neg (by omega)]
    have eH : doH x.o ⟨0, false, 0, false, i + 1, [], 0⟩ cl h = updO h (i + 1) (some cl) := by
      unfold doH
      rw [if_pos ⟨rfl, k5, by simp⟩]
    rw [eF, eH] at hM
    refine Mid.snap f h g q sv cl k5 (H'.did hM hc (fun k bk hkb hqk => ?_) (fun k bk hkb => ?_)) hq hk
    · by_cases e : k = i + 1
      · subst e; rw [hq, h0] at hqk; cases hqk
      · rw [updO_other _ _ e] at hkb
        exact ⟨hkb, hgb k bk hkb⟩
    · by_cases e : k = i + 1
      · subst e; rw [updO_same] at hkb; injection hkb with hkb; omega
      · rw [updO_other _ _ e] at hkb; exact H'.pb k bk hkb
  · by_cases k6 : x.o.kd = 6
    · cases hh : h x.o.hk with
      | none =>
        have eA : tellP 4 f (pcs h g) x.o (i + 1) = errA 33 := by
          unfold tellP
          rw [if_neg (by omega), if_neg (by omega), if_neg k5, if_pos k6, if_neg (by simp [pcs, hh])]
        rw [eA] at hM ⊢
        have eH : doH x.o (errA 33) cl h = h := by
          unfold doH
          rw [if_neg (by simp [errA]), if_neg (by simp [errA])]
        rw [eH] at hM
        exact Mid.other _ _ h (setG g cl f) q sv k5 (fun _ => by simp [errA]) (H'.did hM hc (fun k bk hkb _ => ⟨hkb, hgb k bk hkb⟩) H'.pb) hq hk
      | some bb =>
        have eA : tellP 4 f (pcs h g) x.o (i + 1) = errA 0 := by
          unfold tellP
          rw [if_neg (by omega), if_neg (by omega), if_neg k5, if_pos k6, if_pos (by simp [pcs, hh])]
        rw [eA] at hM ⊢
        have eH : doH x.o (errA 0) cl h = updO h x.o.hk none := by
          unfold doH
          rw [if_neg (by omega), if_pos ⟨rfl, k6⟩]
        rw [eH] at hM
        refine Mid.rel _ h (setG g cl f) q sv k6 (H'.did hM hc (fun k bk hkb _ => ?_) (fun k bk hkb => ?_)) hq hk
        · by_cases e : k = x.o.hk
          · subst e; rw [updO_same] at hkb; cases hkb
          · rw [updO_other _ _ e] at hkb; exact ⟨hkb, hgb k bk hkb⟩
        · by_cases e : k = x.o.hk
          · subst e; rw [updO_same] at hkb; cases hkb
          · rw [updO_other _ _ e] at hkb; exact H'.pb k bk hkb
    · have eH : doH x.o (tellP 4 f (pcs h g) x.o (i + 1)) cl h = h := by
        unfold doH
        rw [if_neg (by omega), if_neg (by omega)]
      rw [eH] at hM
      exact Mid.other _ _ h (setG g cl f) q sv k5 (fun e => absurd e k6) (H'.did hM hc (fun k bk hkb _ => ⟨hkb, hgb k bk hkb⟩) H'.pb) hq hk
end Go.Proofs.Ytomdnmmghdmpgaa
/- An order whose first two have changed places. -/
namespace Go.Proofs.Ytomdnmmghdmpgaa
open Go.RowKit Go.Maps
set_option linter.unusedVariables false

theorem infoIx : (Try.prog.info? 3).map (fun i => (i.zero, i.size, i.bytes)) = some (some (.int .i64 0), 1, 8) := by kernel_rfl
set_option maxRecDepth 100000 in
set_option maxHeartbeats 4000000 in
theorem sw_any {W : World} {B : Nat} {v : Value} {n : Nat} (h : W.ownsRow B 3 1 v n ((ordB n).map (Value.int .i64))) (h2 : 2 ≤ n) (hn : n ≤ 2000) :
    Calls Try.prog 12 #[v] W fun e W' => (∃ p c, e = .returned (.slice p n c) ∧ IReads W' p (swB n)) ∧ Chg (fun _ => False) W W' := by
  obtain ⟨i0, hi, hz0, hz1, hz2⟩ := info_parts infoIx
  rcases h.2 with ⟨rfl, rfl⟩ | ⟨g, cap, cur, rfl, _⟩
  · omega
  · have H := keepH h
    have hxl := h.1
    clear h
    go_enter Try.func12, Try.ntmps12
    go_upto_region 2 with (at_builtin; refine wpList_append_own_at _ rfl _ _ 28 rfl W.heap.size 3 i0 (.int .i64 0) 1 8 Try.underlying28 hi hz0 hz1 hz2 rfl (by decide) (.slice (some ⟨W.heap.size, 0, none⟩) 0 0) 0 [] rfl ⟨rfl, .inr ⟨W.heap.size, 0, #[], rfl, Nat.le_refl _, heap_alloc_new _ _, Nat.le_refl _, by unfold maxLen; omega, rfl, rfl⟩⟩ ⟨g, 0, none⟩ n cap ((ordB n).map (Value.int .i64)) rfl hxl (fun j u hj => ((H.out.alloc _).cells (g := g) rfl j u hj)) (by intro u hu; simp at hu; obtain ⟨x, _, rfl⟩ := hu; rfl) (by unfold maxLen; omega) (by omega) (by simp) ?_; intro v' w1 r1 r2 r3 r4; have R1 := keepH r1; have R2 := keepH r2; clear r1 r2 r3 r4)
    have hr1 := R1.out
    rw [Nat.zero_add, List.nil_append] at hr1
    rcases hr1.2 with ⟨rfl, h0⟩ | ⟨k, cap', cur', rfl, hB, hk, s1, s2, s3, s4⟩
    · omega
    · have HCG : Hid (Chg (fun _ => False) W w1) := ((Chg.refl _ W).alloc _).grown R2.out (fun k e hk => by simp [Value.ownBlock] at e; omega)
      have HB := keepH hB
      have HK := keepH hk
      rw [Nat.mul_one] at s4
      have HT := keepH s4
      have g0 : w1.cell? ⟨k, 0, none⟩ = some (.int .i64 0) := by
        have e : (cur'.toList.take n)[0]? = some (.int .i64 0) := by rw [s4]; simp [ordB_at (show 0 < n by omega)]
        rw [List.getElem?_take_of_lt (by omega)] at e
        rw [cell_of hk]; simpa using e
      have g1 : w1.cell? ⟨k, 1, none⟩ = some (.int .i64 1) := by
        have e : (cur'.toList.take n)[1]? = some (.int .i64 1) := by rw [s4]; simp [ordB_at (show 1 < n by omega)]
        rw [List.getElem?_take_of_lt (by omega)] at e
        rw [cell_of hk]; simpa using e
      have fr0 : ∀ i, w1.frozen? ⟨k, i, none⟩ = false := fun i => free_of hk i
      have f0 := fr0 0
      have hs0 := set_of hk 0 (.int .i64 1)
      have f1 : (w1.setCell ⟨k, 0, none⟩ (.int .i64 1)).frozen? ⟨k, 1, none⟩ = false := free_of hs0 1
      have g1' : (w1.setCell ⟨k, 0, none⟩ (.int .i64 1)).cell? ⟨k, 1, none⟩ = some (.int .i64 1) := by
        rw [cell_of hs0, Array.getElem?_setIfInBounds_ne (by omega), ← cell_of hk]
        exact g1
      obtain ⟨w9, hw9⟩ : ∃ w9, w9 = ((w1.setCell ⟨k, 0, none⟩ (.int .i64 1)).setCell ⟨k, 1, none⟩ (.int .i64 0)).drew := ⟨_, rfl⟩
      have H9 : Hid (IReads w9 (some ⟨k, 0, none⟩) (swB n) ∧ Chg (fun _ => False) W w9) := by
        have hs1 := set_of hs0 1 (.int .i64 0)
        have h9 : w9.heap[k]? = some (.cells ((cur'.setIfInBounds 0 (.int .i64 1)).setIfInBounds 1 (.int .i64 0)) 3 (0, 0)) := by rw [hw9]; exact hs1
        refine ⟨.inr ⟨k, 0, rfl, lt_of h9, fun i x hx => ?_⟩, ?_⟩
        · have hl : i < n := by have := (List.getElem?_eq_some_iff.1 hx).1; simpa [swB, ordB_length] using this
          rw [Nat.zero_add, cell_of h9]
          have e1 : (cur'.toList.take n)[i]? = some (.int .i64 (i : Int)) := by rw [s4]; simp [ordB_at hl]
          rw [List.getElem?_take_of_lt hl] at e1
          have hcl : cur'.size = cap' := by simpa using s3
          unfold swB at hx
          rw [Array.getElem?_setIfInBounds, Array.getElem?_setIfInBounds]
          rw [List.getElem?_set, List.getElem?_set] at hx
          simp only [Array.size_setIfInBounds, List.length_set, ordB_length] at hx ⊢
          by_cases i1 : 1 = i
          · subst i1
            rw [if_pos rfl, if_pos (by omega)] at hx
            rw [if_pos rfl, if_pos (by omega)]
            simp at hx
            rw [hx]
          · rw [if_neg i1] at hx ⊢
            by_cases i0 : 0 = i
            · subst i0
              rw [if_pos rfl, if_pos (by omega)] at hx
              rw [if_pos rfl, if_pos (by omega)]
              simp at hx
              rw [hx]
            · rw [if_neg i0] at hx ⊢
              obtain ⟨_, rfl⟩ := ordB_get hx
              simpa using e1
        · rw [hw9]
          exact ((HCG.out.setCell (p := ⟨k, 0, none⟩) (fun hlt => absurd hlt (by show ¬ k < _; have := HB.out; omega)) _).setCell (p := ⟨k, 1, none⟩) (fun hlt => absurd hlt (by show ¬ k < _; have := HB.out; omega)) _).drew
      clear fr0 hs0 hk hB s1 s2 s3 s4 hr1 R1 R2 H hxl
      have t1 : (1 : Int) < (n : Int) := by omega
      have t0 : (0 : Int) < (n : Int) := by omega
      have u1 : 1 < n := by omega
      have u0 : 0 < n := by omega
      go_region
      all_goals (
        rw [← hw9]
        clear hw9 g0 g1 f0 f1 g1'
        go_wp2_with fail
        go_ret
        exact ⟨⟨_, cap', by simp, H9.out.1⟩, H9.out.2⟩)
end Go.Proofs.Ytomdnmmghdmpgaa
/- TopBehind: the whole walk. -/
namespace Go.Proofs.Ytomdnmmghdmpgaa
open Go.RowKit Go.Maps
set_option linter.unusedVariables false

theorem PRow.base {W : World} {B B' : Nat} {v : Value} {l : List (Nat × Nat)} (h : PRow W B v l) (hb : B' ≤ B) : PRow W B' v l := by
  obtain ⟨⟨h0, h1⟩, h2⟩ := h
  refine ⟨⟨h0, ?_⟩, h2⟩
  rcases h1 with h1 | ⟨g, cap, cur, rfl, hB, hg, r⟩
  · exact .inl h1
  · exact .inr ⟨g, cap, cur, rfl, Nat.le_trans hb hB, hg, r⟩
set_option maxRecDepth 100000 in
theorem m_contentR {W : World} {m nw hd mu : Nat} {f h : Nat → Option Nat} {g : Nat → Nat → Option Nat} {n : Nat} (H : MoAt W m nw hd mu f h g n) (hn : n ≤ 8796093022000) :
    Calls Try.prog 6 #[.pointer (some ⟨m, 0, none⟩)] W fun e W' => (∃ p c l, e = .returned (.slice p l.length c) ∧ Lists f 0 18446744073709551615 l ∧ PRow W' W.heap.size (.slice p l.length c) l) ∧ Chg (fun _ => False) W W' := by
  have HB := keepH (c_all H.now hn)
  have c1 : W.cell? ⟨m, 1, none⟩ = some (.map (some nw)) := cell_of H.md 1
  clear H
  go_enter Try.func6, Try.ntmps6
  go_wp2_with fail
  refine HB.out.mono ?_
  rintro e w1 ⟨⟨v, l, rfl, h1, h2, h3⟩, h4⟩
  have h2' := h2
  obtain ⟨p, c, rfl, hP, hB⟩ := h2.slice
  have HZ : Hid (Lists f 0 18446744073709551615 l ∧ PRow w1 W.heap.size (.slice p l.length c) l) := ⟨h1, h2'⟩
  have HC := keepH h4
  clear h1 h2 h2' h3 h4 hP hB
  go_wp2_with fail
  go_ret
  exact ⟨⟨p, c, l, rfl, HZ.out⟩, HC.out⟩
theorem Mid.split {W wx : World} {m nw hd b i : Nat} {v5 v6 : Value} {o : OpP} {e : Int} (H : Mid W wx m nw hd b i v5 v6 o e) :
    (e = 0 ∧ o.kd = 5 ∧ ∃ f h g q sv cl, TB W wx m nw hd b f (updO h (i + 1) (some cl)) (setG g cl f) q sv (i + 1) i i i v5 v6 ∧ (∀ k, q k = (h k).isSome) ∧ ∀ k bk, h k = some bk → 1 ≤ k ∧ k ≤ i)
    ∨ (e = 0 ∧ o.kd = 6 ∧ ∃ f h g q sv, TB W wx m nw hd b f (updO h o.hk none) g q sv (i + 1) i i i v5 v6 ∧ (∀ k, q k = (h k).isSome) ∧ ∀ k bk, h k = some bk → 1 ≤ k ∧ k ≤ i)
    ∨ (o.kd ≠ 5 ∧ (o.kd = 6 → e ≠ 0) ∧ ∃ f h g q sv, TB W wx m nw hd b f h g q sv (i + 1) i i i v5 v6 ∧ (∀ k, q k = (h k).isSome) ∧ ∀ k bk, h k = some bk → 1 ≤ k ∧ k ≤ i) := by
  cases H with
  | snap f h g q sv cl hk hb hq hi => exact .inl ⟨rfl, hk, f, h, g, q, sv, cl, hb, hq, hi⟩
  | rel f h g q sv hk hb hq hi => exact .inr (.inl ⟨rfl, hk, f, h, g, q, sv, hb, hq, hi⟩)
  | other e f h g q sv hk he hb hq hi => exact .inr (.inr ⟨hk, he, f, h, g, q, sv, hb, hq, hi⟩)
/-- Ahead of the two appends of a round. -/
def TE (W wr : World) (m nw hd b i : Nat) (v5 v6 : Value) (i5 i6 : Nat) : Prop := ∃ f h g q sv, TB W wr m nw hd b f h g q sv (i + 1) (i + 1) i5 i6 v5 v6 ∧ (∀ k, q k = (h k).isSome) ∧ ∀ k bk, h k = some bk → 1 ≤ k ∧ k ≤ i + 1
theorem TE.end {W wr : World} {m nw hd b i : Nat} {v5 v6 : Value} (H : TE W wr m nw hd b i v5 v6 (i + 1) (i + 1)) : TR W wr m nw hd b (i + 1) v5 v6 := by
  obtain ⟨f, h, g, q, sv, h1, h2, h3⟩ := H
  exact ⟨f, h, g, q, sv, h1, h2, h3⟩
theorem spB_cells (i : Nat) : (spB i).cells = [.int .i64 ((i : Int) % 3), .int .i64 ((i : Int) / 3), .int .i64 (2 * (i : Int)), .int .i64 (2 * (i : Int) + 1)] := by simp [spB, Sp.cells]
theorem TE.span {W wr wx : World} {m nw hd b i : Nat} {v5 v5' v6 : Value} {o : Obj} (H : TE W wr m nw hd b i v5 v6 i i) (hr : wx.ownsRow W.heap.size 43 4 v5' (i + 1) (flS (spsB i) ++ [.int .i64 ((i : Int) % 3), .int .i64 ((i : Int) / 3), .int .i64 (2 * (i : Int)), .int .i64 (2 * (i : Int) + 1)])) (hg : (wr.alloc o).grownBy wx v5.ownBlock) : TE W wx m nw hd b i v5' v6 (i + 1) i := by
  obtain ⟨f, h, g, q, sv, h1, h2, h3⟩ := H
  rw [← spB_cells] at hr
  exact ⟨f, h, g, q, sv, h1.span hr hg, h2, h3⟩
theorem TE.num {W wr wx : World} {m nw hd b i : Nat} {v5 v6 v6' : Value} {o : Obj} (H : TE W wr m nw hd b i v5 v6 (i + 1) i) (hr : wx.ownsRow W.heap.size 3 1 v6' (i + 1) ((ordB i).map (Value.int .i64) ++ [.int .i64 (i : Int)])) (hg : (wr.alloc o).grownBy wx v6.ownBlock) : TE W wx m nw hd b i v5 v6' (i + 1) (i + 1) := by
  obtain ⟨f, h, g, q, sv, h1, h2, h3⟩ := H
  exact ⟨f, h, g, q, sv, h1.num hr hg, h2, h3⟩
theorem infoSp : (Try.prog.info? 43).map (fun i => (i.zero, i.size, i.bytes)) = some (some (.agg #[.int .i64 0, .int .i64 0, .int .i64 0, .int .i64 0]), 4, 32) := by kernel_rfl
theorem TR.zero {W w1 : World} (M : MoAt w1 (W.heap.size + 2) W.heap.size (W.heap.size + 1) 4 (fun _ => none) (fun _ => none) (fun _ _ => none) 0) (C : Chg (fun _ => False) W w1) : TR W (w1.alloc (.map #[] 0)) (W.heap.size + 2) W.heap.size (W.heap.size + 1) w1.heap.size 0 (.slice none 0 0) (.slice none 0 0) := by
  have bl := M.blk
  have z := C.size
  exact ⟨fun _ => none, fun _ => none, fun _ _ => none, fun _ => false, fun _ => .slice none 0 0, ⟨M.quiet ((Chg.refl _ _).alloc _), HM.made _ _, fun k bk hk => (by cases hk), ⟨rfl, .inl ⟨rfl, rfl⟩⟩, ⟨rfl, .inl ⟨rfl, rfl⟩⟩, by omega, by omega, fun k bk hk => (by cases hk), C.alloc _⟩, fun k => rfl, fun k bk hk => (by cases hk)⟩
theorem OpsAt.bk {W : World} {p : Option Addr} {l : List OpI} (h : OpsAt W p l) {bk off : Nat} (hp : p = some ⟨bk, off, none⟩) (hl : l ≠ []) : bk < W.heap.size := by
  rcases h with h | ⟨bk', off', e, hb, _⟩
  · exact absurd h hl
  · rw [hp] at e
    injection e with e
    injection e with e
    omega
set_option maxRecDepth 100000 in
set_option maxHeartbeats 8000000 in
theorem behind_walk (p : Option Addr) (c : Nat) (l : List OpI) (W : World) (hO : OpsAt W p l) :
    Calls Try.prog 3 #[.slice p l.length c] W fun e W' => e = .returned (.bool true) ∧ Chg (fun _ => False) W W' := by
  have HO := keepH hO
  clear hO
  have hmm := @run_makeMap Try.prog
  obtain ⟨i0, hi0, hz0, hz1, hz2⟩ := info_parts infoIx
  obtain ⟨j0, hj, hy0, hy1, hy2⟩ := info_parts infoSp
  by_cases hbig : 2000 < l.length
  · have t1 : (2000 : Int) < (l.length : Int) := by omega
    go_enter Try.func3, Try.ntmps3
    go_wp2_with fail
    refine (new_q W).mono ?_
    rintro e w1 ⟨rfl, M1, C1⟩
    have HC := keepH C1
    clear M1 C1
    go_wp2_with fail
    go_ret
    exact ⟨by simp, HC.out⟩
  · have t1 : ¬ (2000 : Int) < (l.length : Int) := by omega
    go_enter Try.func3, Try.ntmps3
    go_wp2_with fail
    refine (new_q W).mono ?_
    rintro e w1 ⟨rfl, M1, C1⟩
    obtain ⟨w2, hw2⟩ : ∃ w2, w2 = w1.alloc (.map #[] 0) := ⟨_, rfl⟩
    have HT := TR.zero M1 C1
    rw [← hw2] at HT
    obtain ⟨m, hm⟩ : ∃ m, m = W.heap.size + 2 := ⟨_, rfl⟩
    obtain ⟨hd, hhd⟩ : ∃ hd, hd = W.heap.size + 1 := ⟨_, rfl⟩
    obtain ⟨nw, hnw⟩ : ∃ nw, nw = W.heap.size := ⟨_, rfl⟩
    obtain ⟨b, hb⟩ : ∃ b, b = w1.heap.size := ⟨_, rfl⟩
    have HT0 : Hid (TR W w2 m nw hd b 0 (.slice none 0 0) (.slice none 0 0)) := by rw [hm, hhd, hnw, hb]; exact HT
    rw [← hm]
    clear M1 C1 HT hm hhd hnw
    go_upto_region 7 with fail
    rw [← hw2, ← hb]
    clear hw2 hb hmm
    go_wp2_with fail
    go_loopw [5, 6, 8] (fun s5 s6 s wr => ∃ i : Nat, i ≤ l.length ∧ s = .int .i64 (i : Int) ∧ Hid (TR W wr m nw hd b i s5 s6)) (fun _ _ s _ => l.length - natOf s)
    case atStart => exact ⟨0, Nat.zero_le _, rfl, HT0⟩
    case round =>
      clear HT0
      obtain ⟨i, hil, rfl, HX⟩ := hrel
      by_cases hlt : i < l.length
      · have q1 : (i : Int) < (l.length : Int) := by omega
        obtain ⟨x, hx⟩ : ∃ x, l[i]? = some x := ⟨l[i], List.getElem?_eq_getElem hlt⟩
        obtain ⟨hn, hhn⟩ : ∃ hn, hn = i + 1 := ⟨_, rfl⟩
        have HCW : Hid (Chg (fun _ => False) W wr) := by obtain ⟨f, h, g, q, sv, hB, _⟩ := HX.out.ex; exact hB.chg
        obtain ⟨bk, off, rfl, hok, hcs0⟩ := HO.out.get (Chg.refl _ _) hx
        have HKC : Hid (∀ w', Chg (fun _ => False) W w' → ∀ j v, x.cs[j]? = some v → w'.cell? ⟨bk, off + i * 11 + j, none⟩ = some v) := fun w' cw j v hj => cell_chg cw (hcs0 j v hj) (fun x => x)
        have hcs := HKC.out wr HCW.out
        have c0 := hcs 0 _ rfl
        have c1 := hcs 1 _ rfl
        have c2 := hcs 2 _ rfl
        have c3 := hcs 3 _ rfl
        have c4 := hcs 4 _ rfl
        have c5 := hcs 5 _ rfl
        have c6 := hcs 6 _ rfl
        have c7 := hcs 7 _ rfl
        have c8 := hcs 8 _ rfl
        have c9 := hcs 9 _ rfl
        have c10 := hcs 10 _ rfl
        rw [Nat.add_zero] at c0
        have HD := keepH (HX.out.call hok (Chg.refl _ _) (by omega))
        rw [← hhn] at HD
        have u1 : IntKind.u64.wrap (i : Int) = (i : Int) := by rw [IntKind.wrap_u64]; omega
        have u2 : IntKind.u64.wrap ((i : Int) + 1) = (hn : Int) := by rw [IntKind.wrap_u64]; omega
        have HHN := keepH hhn
        have HOK := keepH hok
        have hi2 : i ≤ 1999 := by omega
        clear hx hcs hcs0 hok hhn HX HCW
        go_wp2_with fail
        refine HD.out.mono ?_
        rintro e w4 ⟨⟨A, pa, ca, rfl, hMid⟩, C4⟩
        obtain ⟨ae, af, ax, ad, ah, al, an⟩ := A
        unfold ansC
        simp only at hMid ⊢
        obtain ⟨w5, hw5⟩ : ∃ w5, w5 = w4.alloc (.cells #[.int .i64 ae, .bool af, .int .u64 (ax : Int), .bool ad, .int .u64 (ah : Int), .slice pa al.length ca, .int .u64 (an : Int)] 33) := ⟨_, rfl⟩
        have C5 : Chg (fun _ => False) w4 w5 := by rw [hw5]; exact (Chg.refl _ _).alloc _
        have HA5 : Hid (w5.heap[w4.heap.size]? = some (.cells #[.int .i64 ae, .bool af, .int .u64 (ax : Int), .bool ad, .int .u64 (ah : Int), .slice pa al.length ca, .int .u64 (an : Int)] 33 (0, 0))) := by rw [hw5]; exact heap_alloc_new _ _
        have HMid := keepH hMid.split
        have HC5 := keepH C5
        clear hMid C4 C5 c0 c1 c2 c3 c4 c5 c6 c7 c8 c9 c10 u1 u2 HD
        go_upto_region 12 with fail
        rw [← hw5]
        clear hw5
        have t0 : w5.cell? ⟨w4.heap.size, 0, none⟩ = some (.int .i64 ae) := cell_of HA5.out 0
        rcases HMid.out with ⟨rfl, hk5, f, h, g, q, sv, cl, hB, hq, hi⟩ | ⟨rfl, hk6, f, h, g, q, sv, hB, hq, hi⟩ | ⟨hk5, hk6, f, h, g, q, sv, hB, hq, hi⟩
        · have HB5 := keepH (hB.quiet HC5.out)
          have c0 := HKC.out w5 HB5.out.chg 0 _ rfl
          rw [Nat.add_zero] at c0
          have z5 : (x.o.kd == 5) = true := by simp [hk5]
          have HQ := keepH hq
          have HI := keepH hi
          have HK5 := keepH hk5
          clear hB hq hi hk5 HMid HC5
          go_wp2_with fail
          refine (m_contentR HB5.out.mo (by omega)).mono ?_
          rintro e w6 ⟨⟨pc, cc, lc, rfl, hL, hP⟩, C6⟩
          have HB6 := keepH (HB5.out.quiet C6)
          have hqn : q hn = false := by
            rw [HQ.out, HHN.out]
            cases e : h (i + 1) with
            | none => rfl
            | some bk => have := HI.out _ _ e; omega
          obtain ⟨w7, hput, hm7, C7⟩ := HM.put HB6.out.hm (by unfold maxLen; omega) (k := hn) (by have := HHN.out; omega) hqn pc lc.length cc
          have HE : Hid (TE W w7 m nw hd b i u5 u6 i i) := by
            refine ⟨f, updO h (i + 1) (some cl), setG g cl f, setQ q hn true, setV sv hn (.slice pc lc.length cc), HB6.out.mapped hm7 C7 (fun k bk hk hqk => ?_), fun k => ?_, fun k bk hk => ?_⟩
            · by_cases e : k = hn
              · subst e
                rw [← HHN.out, updO_same] at hk
                injection hk with hk
                subst hk
                rw [setV_same, setG_same]
                exact ⟨lc, hP.base HB5.out.chg.size, hL⟩
              · rw [setQ_other _ _ e] at hqk
                rw [setV_other _ _ e]
                exact HB6.out.pr k bk hk hqk
            · by_cases e : k = hn
              · subst e; rw [setQ_same, ← HHN.out, updO_same]; rfl
              · rw [setQ_other _ _ e, ← HHN.out, updO_other _ _ e]; exact HQ.out k
            · by_cases e : k = i + 1
              · omega
              · rw [updO_other _ _ e] at hk; have := HI.out k bk hk; omega
          have hch := HE.out
          obtain ⟨_, _, _, _, _, hTB, _, _⟩ := hch
          have c0' := HKC.out w7 hTB.chg 0 _ rfl
          rw [Nat.add_zero] at c0'
          have z6 : (x.o.kd == 6) = false := by simp [HK5.out]
          clear hTB hm7 C7 C6 hqn hL hP HB6 HB5 HQ HI c0 t0
          have hr5 : w7.ownsRow W.heap.size 43 4 u5 i (flS (spsB i)) := by obtain ⟨_, _, _, _, _, hTB, _, _⟩ := HE.out; exact hTB.r5
          have hsz : W.heap.size ≤ w7.heap.size := by obtain ⟨_, _, _, _, _, hTB, _, _⟩ := HE.out; exact hTB.chg.size
          go_upto_region 16 with fail
          go_upto_region 17 with (at_builtin; refine wpList_append_own_at _ rfl _ _ 27 rfl W.heap.size 43 j0 (.agg #[.int .i64 0, .int .i64 0, .int .i64 0, .int .i64 0]) 4 32 Try.underlying27 hj hy0 hy1 hy2 rfl (by decide) _ _ _ rfl (hr5.alloc _) ⟨_, 0, none⟩ 1 1 [.int .i64 ((i : Int) % 3), .int .i64 ((i : Int) / 3), .int .i64 (2 * (i : Int)), .int .i64 (2 * (i : Int) + 1)] rfl rfl (cells_new _ _ rfl _ _) (by intro u hu; simp at hu; rcases hu with rfl | rfl | rfl | rfl <;> rfl) (by unfold maxLen; omega) (by omega) (by simp; omega) ?_; intro v8 w8 r1 r2 r3 r4; have HE8 := keepH (HE.out.span r1 r2); clear r1 r2 r3 r4)
          clear hr5 hsz HE
          have hr6 : w8.ownsRow W.heap.size 3 1 u6 i ((ordB i).map (Value.int .i64)) := by obtain ⟨_, _, _, _, _, hTB, _, _⟩ := HE8.out; exact hTB.r6
          have hsz : W.heap.size ≤ w8.heap.size := by obtain ⟨_, _, _, _, _, hTB, _, _⟩ := HE8.out; exact hTB.chg.size
          go_wp2_with (at_builtin; refine wpList_append_own_at _ rfl _ _ 28 rfl W.heap.size 3 i0 (.int .i64 0) 1 8 Try.underlying28 hi0 hz0 hz1 hz2 rfl (by decide) _ _ _ rfl (hr6.alloc _) ⟨_, 0, none⟩ 1 1 [.int .i64 (i : Int)] rfl rfl (cells_new _ _ rfl _ _) (by intro u hu; simp at hu; subst hu; rfl) (by unfold maxLen; omega) (by omega) (by simp; omega) ?_; intro v9 w9 r1 r2 r3 r4; have HE9 := keepH (HE8.out.num r1 r2); clear r1 r2 r3 r4)
          go_roundw
          case rel => exact ⟨i + 1, by omega, by first | rfl | go_num, HE9.out.end⟩
          case measure => exact meas hlt
        · have HB5 := keepH (hB.quiet HC5.out)
          have c0 := HKC.out w5 HB5.out.chg 0 _ rfl
          have c4 := HKC.out w5 HB5.out.chg 4 _ rfl
          rw [Nat.add_zero] at c0
          have z5 : (x.o.kd == 5) = false := by simp [hk6]
          have z6 : (x.o.kd == 6) = true := by simp [hk6]
          obtain ⟨w7, hdel, hm7, C7⟩ := HM.del HB5.out.hm HOK.out.ok.hk 0
          have HE : Hid (TE W w7 m nw hd b i u5 u6 i i) := by
            refine ⟨f, updO h x.o.hk none, g, setQ q x.o.hk false, sv, (HB5.out.mapped hm7 C7 (fun k bk hk hqk => ?_)).mono (Nat.le_succ i), fun k => ?_, fun k bk hk => ?_⟩
            · by_cases e : k = x.o.hk
              · subst e; rw [setQ_same] at hqk; cases hqk
              · rw [setQ_other _ _ e] at hqk
                exact HB5.out.pr k bk hk hqk
            · by_cases e : k = x.o.hk
              · subst e; rw [setQ_same, updO_same]; rfl
              · rw [setQ_other _ _ e, updO_other _ _ e]; exact hq k
            · by_cases e : k = x.o.hk
              · subst e; rw [updO_same] at hk; cases hk
              · rw [updO_other _ _ e] at hk; have := hi k bk hk; omega
          clear hB hq hi hk6 HMid HC5 hm7 C7 HB5
          have hr5 : w7.ownsRow W.heap.size 43 4 u5 i (flS (spsB i)) := by obtain ⟨_, _, _, _, _, hTB, _, _⟩ := HE.out; exact hTB.r5
          have hsz : W.heap.size ≤ w7.heap.size := by obtain ⟨_, _, _, _, _, hTB, _, _⟩ := HE.out; exact hTB.chg.size
          go_upto_region 16 with fail
          go_upto_region 17 with (at_builtin; refine wpList_append_own_at _ rfl _ _ 27 rfl W.heap.size 43 j0 (.agg #[.int .i64 0, .int .i64 0, .int .i64 0, .int .i64 0]) 4 32 Try.underlying27 hj hy0 hy1 hy2 rfl (by decide) _ _ _ rfl (hr5.alloc _) ⟨_, 0, none⟩ 1 1 [.int .i64 ((i : Int) % 3), .int .i64 ((i : Int) / 3), .int .i64 (2 * (i : Int)), .int .i64 (2 * (i : Int) + 1)] rfl rfl (cells_new _ _ rfl _ _) (by intro u hu; simp at hu; rcases hu with rfl | rfl | rfl | rfl <;> rfl) (by unfold maxLen; omega) (by omega) (by simp; omega) ?_; intro v8 w8 r1 r2 r3 r4; have HE8 := keepH (HE.out.span r1 r2); clear r1 r2 r3 r4)
          clear hr5 hsz HE
          have hr6 : w8.ownsRow W.heap.size 3 1 u6 i ((ordB i).map (Value.int .i64)) := by obtain ⟨_, _, _, _, _, hTB, _, _⟩ := HE8.out; exact hTB.r6
          have hsz : W.heap.size ≤ w8.heap.size := by obtain ⟨_, _, _, _, _, hTB, _, _⟩ := HE8.out; exact hTB.chg.size
          go_wp2_with (at_builtin; refine wpList_append_own_at _ rfl _ _ 28 rfl W.heap.size 3 i0 (.int .i64 0) 1 8 Try.underlying28 hi0 hz0 hz1 hz2 rfl (by decide) _ _ _ rfl (hr6.alloc _) ⟨_, 0, none⟩ 1 1 [.int .i64 (i : Int)] rfl rfl (cells_new _ _ rfl _ _) (by intro u hu; simp at hu; subst hu; rfl) (by unfold maxLen; omega) (by omega) (by simp; omega) ?_; intro v9 w9 r1 r2 r3 r4; have HE9 := keepH (HE8.out.num r1 r2); clear r1 r2 r3 r4)
          go_roundw
          case rel => exact ⟨i + 1, by omega, by first | rfl | go_num, HE9.out.end⟩
          case measure => exact meas hlt
        · have HE : Hid (TE W w5 m nw hd b i u5 u6 i i) := ⟨f, h, g, q, sv, (hB.quiet HC5.out).mono (Nat.le_succ i), hq, fun k bk hk => by have := hi k bk hk; omega⟩
          have c0 := HKC.out w5 (hB.quiet HC5.out).chg 0 _ rfl
          rw [Nat.add_zero] at c0
          have z5 : (x.o.kd == 5) = false := by simpa using hk5
          by_cases q6 : x.o.kd = 6
          · have z6 : (x.o.kd == 6) = true := by simpa using q6
            have z0 : (ae == 0) = false := by simpa using hk6 q6
            clear hB hq hi hk5 hk6 q6 HMid HC5
            have hr5 : w5.ownsRow W.heap.size 43 4 u5 i (flS (spsB i)) := by obtain ⟨_, _, _, _, _, hTB, _, _⟩ := HE.out; exact hTB.r5
            have hsz : W.heap.size ≤ w5.heap.size := by obtain ⟨_, _, _, _, _, hTB, _, _⟩ := HE.out; exact hTB.chg.size
            go_upto_region 16 with fail
            go_upto_region 17 with (at_builtin; refine wpList_append_own_at _ rfl _ _ 27 rfl W.heap.size 43 j0 (.agg #[.int .i64 0, .int .i64 0, .int .i64 0, .int .i64 0]) 4 32 Try.underlying27 hj hy0 hy1 hy2 rfl (by decide) _ _ _ rfl (hr5.alloc _) ⟨_, 0, none⟩ 1 1 [.int .i64 ((i : Int) % 3), .int .i64 ((i : Int) / 3), .int .i64 (2 * (i : Int)), .int .i64 (2 * (i : Int) + 1)] rfl rfl (cells_new _ _ rfl _ _) (by intro u hu; simp at hu; rcases hu with rfl | rfl | rfl | rfl <;> rfl) (by unfold maxLen; omega) (by omega) (by simp; omega) ?_; intro v8 w8 r1 r2 r3 r4; have HE8 := keepH (HE.out.span r1 r2); clear r1 r2 r3 r4)
            clear hr5 hsz HE
            have hr6 : w8.ownsRow W.heap.size 3 1 u6 i ((ordB i).map (Value.int .i64)) := by obtain ⟨_, _, _, _, _, hTB, _, _⟩ := HE8.out; exact hTB.r6
            have hsz : W.heap.size ≤ w8.heap.size := by obtain ⟨_, _, _, _, _, hTB, _, _⟩ := HE8.out; exact hTB.chg.size
            go_wp2_with (at_builtin; refine wpList_append_own_at _ rfl _ _ 28 rfl W.heap.size 3 i0 (.int .i64 0) 1 8 Try.underlying28 hi0 hz0 hz1 hz2 rfl (by decide) _ _ _ rfl (hr6.alloc _) ⟨_, 0, none⟩ 1 1 [.int .i64 (i : Int)] rfl rfl (cells_new _ _ rfl _ _) (by intro u hu; simp at hu; subst hu; rfl) (by unfold maxLen; omega) (by omega) (by simp; omega) ?_; intro v9 w9 r1 r2 r3 r4; have HE9 := keepH (HE8.out.num r1 r2); clear r1 r2 r3 r4)
            go_roundw
            case rel => exact ⟨i + 1, by omega, by first | rfl | go_num, HE9.out.end⟩
            case measure => exact meas hlt
          · have z6 : (x.o.kd == 6) = false := by simpa using q6
            clear hB hq hi hk5 hk6 q6 HMid HC5
            have hr5 : w5.ownsRow W.heap.size 43 4 u5 i (flS (spsB i)) := by obtain ⟨_, _, _, _, _, hTB, _, _⟩ := HE.out; exact hTB.r5
            have hsz : W.heap.size ≤ w5.heap.size := by obtain ⟨_, _, _, _, _, hTB, _, _⟩ := HE.out; exact hTB.chg.size
            go_upto_region 16 with fail
            go_upto_region 17 with (at_builtin; refine wpList_append_own_at _ rfl _ _ 27 rfl W.heap.size 43 j0 (.agg #[.int .i64 0, .int .i64 0, .int .i64 0, .int .i64 0]) 4 32 Try.underlying27 hj hy0 hy1 hy2 rfl (by decide) _ _ _ rfl (hr5.alloc _) ⟨_, 0, none⟩ 1 1 [.int .i64 ((i : Int) % 3), .int .i64 ((i : Int) / 3), .int .i64 (2 * (i : Int)), .int .i64 (2 * (i : Int) + 1)] rfl rfl (cells_new _ _ rfl _ _) (by intro u hu; simp at hu; rcases hu with rfl | rfl | rfl | rfl <;> rfl) (by unfold maxLen; omega) (by omega) (by simp; omega) ?_; intro v8 w8 r1 r2 r3 r4; have HE8 := keepH (HE.out.span r1 r2); clear r1 r2 r3 r4)
            clear hr5 hsz HE
            have hr6 : w8.ownsRow W.heap.size 3 1 u6 i ((ordB i).map (Value.int .i64)) := by obtain ⟨_, _, _, _, _, hTB, _, _⟩ := HE8.out; exact hTB.r6
            have hsz : W.heap.size ≤ w8.heap.size := by obtain ⟨_, _, _, _, _, hTB, _, _⟩ := HE8.out; exact hTB.chg.size
            go_wp2_with (at_builtin; refine wpList_append_own_at _ rfl _ _ 28 rfl W.heap.size 3 i0 (.int .i64 0) 1 8 Try.underlying28 hi0 hz0 hz1 hz2 rfl (by decide) _ _ _ rfl (hr6.alloc _) ⟨_, 0, none⟩ 1 1 [.int .i64 (i : Int)] rfl rfl (cells_new _ _ rfl _ _) (by intro u hu; simp at hu; subst hu; rfl) (by unfold maxLen; omega) (by omega) (by simp; omega) ?_; intro v9 w9 r1 r2 r3 r4; have HE9 := keepH (HE8.out.num r1 r2); clear r1 r2 r3 r4)
            go_roundw
            case rel => exact ⟨i + 1, by omega, by first | rfl | go_num, HE9.out.end⟩
            case measure => exact meas hlt
      · have q1 : ¬ (i : Int) < (l.length : Int) := by omega
        obtain rfl : i = l.length := by omega
        clear hlt
        obtain ⟨f, h, g, q, sv, hB, hq, hi⟩ := HX.out.ex
        obtain ⟨p5, c5, e5, hS5⟩ := sreads_of (l := spsB l.length) (by rw [spsB_length]; exact hB.r5)
        obtain ⟨p6, c6, e6, hS6⟩ := ireads_of (l := ordB l.length) (by rw [ordB_length]; exact hB.r6)
        rw [spsB_length] at e5
        rw [ordB_length] at e6
        subst e5 e6
        have HB := keepH hB
        have HQ := keepH hq
        have HI := keepH hi
        have HS5 := keepH hS5
        have HS6 := keepH hS6
        clear hB hq hi HX hS5 hS6
        go_wp2_with fail
        refine (m_handles HB.out.mo (by omega)).mono ?_
        rintro e w3 ⟨⟨v, ss, rfl, hA, hsl, hu⟩, C3⟩
        have hKA : ∃ pk ck, v = .slice pk ss.length ck ∧ KeysAt w3 pk ss := by
          rcases hu with ⟨rfl, rfl⟩ | ⟨gk, ck, rfl, hgk, hR⟩
          · exact ⟨none, 0, rfl, .inl rfl⟩
          · refine ⟨some ⟨gk, 0, none⟩, ck, rfl, .inr ⟨gk, 0, rfl, (by obtain ⟨rest, hb⟩ := hR; exact lt_of hb), fun j k hk => ⟨?_, by rw [Nat.zero_add]; exact hR.cell j k hk⟩⟩⟩
            have hs := (hA.2 k).1 (List.mem_of_getElem? hk)
            obtain ⟨bb, hbb⟩ := Option.isSome_iff_exists.1 hs
            have := HI.out k bb hbb
            omega
        obtain ⟨pk, ck, rfl, hK⟩ := hKA
        have HA := keepH hA
        have HTK : Hid (TB W w3 m nw hd b f h g q sv l.length l.length l.length l.length (.slice p5 l.length c5) (.slice p6 l.length c6) ∧ KeysAt w3 pk ss) := ⟨HB.out.quiet C3, hK⟩
        have HSS : Hid (SReads w3 p5 (spsB l.length) ∧ IReads w3 p6 (ordB l.length)) := ⟨HS5.out.chg C3 (fun _ _ x => x), HS6.out.chg C3 (fun _ _ x => x)⟩
        clear hA hK hu C3 HB HS5 HS6
        go_wp2_with fail
        go_loopw [12] (fun s wr => ∃ j : Nat, j ≤ ss.length ∧ s = .int .i64 (j : Int) ∧ Hid (TB W wr m nw hd b f h g q sv l.length l.length l.length l.length (.slice p5 l.length c5) (.slice p6 l.length c6) ∧ KeysAt wr pk ss ∧ SReads wr p5 (spsB l.length) ∧ IReads wr p6 (ordB l.length))) (fun s _ => ss.length - natOf s)
        case atStart => exact ⟨0, Nat.zero_le _, rfl, ⟨HTK.out.1, HTK.out.2, HSS.out.1, HSS.out.2⟩⟩
        case round =>
          clear HTK HSS
          obtain ⟨j, hjl, rfl, HY⟩ := hrel
          by_cases hjt : j < ss.length
          · have q2 : (j : Int) < (ss.length : Int) := by omega
            obtain ⟨k, hk⟩ : ∃ k, ss[j]? = some k := ⟨ss[j], List.getElem?_eq_getElem hjt⟩
            obtain ⟨bk, off, rfl, hbk, hcs⟩ := HY.out.2.1.resolve_left (by intro e; subst e; simp at hk)
            obtain ⟨hk64, cK⟩ := hcs j k hk
            obtain ⟨bb, hbb⟩ := Option.isSome_iff_exists.1 ((HA.out.2 k).1 (List.mem_of_getElem? hk))
            have hqk : q k = true := by rw [HQ.out, hbb]; rfl
            obtain ⟨lv, hPv, hLv⟩ := HY.out.1.pr k bb hbb hqk
            have hPv' := hPv
            obtain ⟨pv, cv, ev, hPA, hPB⟩ := hPv.slice
            have HHS := keepH (m_heldS HY.out.1.mo (by omega) hk64 hbb)
            have HV : Hid (PairsAt wr pv lv ∧ Lists (g bb) 0 18446744073709551615 lv) := ⟨hPA, hLv⟩
            have HLK : Hid (∀ w', Chg (fun _ => False) wr w' → (Instr.lookup 29 (.map (some b)) (.int .u64 (k : Int)) false).run Try.prog w' = .ok (.slice pv lv.length cv) w') := fun w' cw => by
              have e := HM.look (MapR.chg HY.out.1.hm cw (fun x => x)) hk64 hqk
              rw [ev] at e
              exact e
            have HCK : Hid (∀ w', Chg (fun _ => False) wr w' → w'.cell? ⟨bk, off + j, none⟩ = some (.int .u64 (k : Int))) := fun w' cw => cell_chg cw cK (fun x => x)
            clear hk hcs hbk hbb hqk hPv hPv' hPA hPB ev hLv
            go_wp2_with fail
            refine HHS.out.mono ?_
            rintro e w4 ⟨⟨p4, c4, l4, rfl, hL4, hP4, hn4⟩, C4⟩
            obtain rfl := hL4.unique HV.out.2
            have hlk := HLK.out w4 C4
            have cK4 := HCK.out w4 C4
            have HR := keepH (r_pairs p4 pv c4 cv l4 l4 w4 hP4 (HV.out.1.chg C4) (by omega) (by omega))
            have HY4 : Hid (TB W w4 m nw hd b f h g q sv l.length l.length l.length l.length (.slice p5 l.length c5) (.slice p6 l.length c6) ∧ KeysAt w4 (some ⟨bk, off, none⟩) ss ∧ SReads w4 p5 (spsB l.length) ∧ IReads w4 p6 (ordB l.length)) := ⟨HY.out.1.quiet C4, HY.out.2.1.chg C4 (fun _ _ _ x => x), HY.out.2.2.1.chg C4 (fun _ _ x => x), HY.out.2.2.2.chg C4 (fun _ _ x => x)⟩
            clear hL4 hP4 C4 HY HHS HLK HCK cK HV
            go_wp2_with fail
            refine HR.out.mono ?_
            rintro e w5 ⟨rfl, C5⟩
            have HY5 : Hid (TB W w5 m nw hd b f h g q sv l.length l.length l.length l.length (.slice p5 l.length c5) (.slice p6 l.length c6) ∧ KeysAt w5 (some ⟨bk, off, none⟩) ss ∧ SReads w5 p5 (spsB l.length) ∧ IReads w5 p6 (ordB l.length)) := ⟨HY4.out.1.quiet C5, HY4.out.2.1.chg C5 (fun _ _ _ x => x), HY4.out.2.2.1.chg C5 (fun _ _ x => x), HY4.out.2.2.2.chg C5 (fun _ _ x => x)⟩
            clear C5 HY4 HR hlk cK4
            go_wp2_with fail
            go_roundw
            case rel => exact ⟨j + 1, by omega, by first | rfl | go_num, HY5⟩
            case measure => exact meas hjt
          · have q2 : ¬ (j : Int) < (ss.length : Int) := by omega
            obtain rfl : j = ss.length := by omega
            clear hjt hjl
            have hlen := fun ty => HM.len HY.out.1.hm HA.out.1 (fun x => by rw [HA.out.2 x, HQ.out x]) ty
            obtain ⟨N, hN⟩ : ∃ N, N = l.length := ⟨_, rfl⟩
            have HR := keepH (h_right p5 c5 (spsB l.length) wr HY.out.2.2.1 (spsB_ok (by omega)) (by rw [spsB_length]; omega))
            have HKP : Hid (∀ w', Chg (fun _ => False) wr w' → Calls Try.prog 11 #[.slice p5 l.length c5, .slice p6 l.length c6] w' fun e W' => e = .returned (.bool true) ∧ Chg (fun _ => False) w' W') := fun w' cw => by
              have e := h_keeps p5 p6 c5 c6 (spsB l.length) (ordB l.length) w' (HY.out.2.2.1.chg cw (fun _ _ x => x)) (HY.out.2.2.2.chg cw (fun _ _ x => x)) (by rw [spsB_length]; omega) (by rw [ordB_length]; omega)
              rw [spsB_length, ordB_length] at e
              refine e.mono ?_
              rintro e w2 ⟨v, rfl, ⟨_, rfl⟩ | ⟨hno, _⟩, hc⟩
              · exact ⟨rfl, hc⟩
              · exact absurd keeps_ordB hno
            have HRR : Hid (Calls Try.prog 10 #[.slice p5 l.length c5] wr fun e W' => e = .returned (.int .i64 0) ∧ Chg (fun _ => False) wr W') := by
              have e := HR.out
              rw [spsB_length] at e
              refine e.mono ?_
              rintro e w2 ⟨x, rfl, ⟨_, rfl⟩ | ⟨hno, _⟩, hc⟩
              · exact ⟨rfl, hc⟩
              · exact absurd right_spsB hno
            have HSW : 2 ≤ l.length → Hid (∀ w', Chg (fun _ => False) wr w' → Calls Try.prog 12 #[.slice p6 l.length c6] w' fun e W' => (∃ p c, e = .returned (.slice p l.length c) ∧ IReads W' p (swB l.length)) ∧ Chg (fun _ => False) w' W') := fun h2 w' cw => sw_any (ownsRow_chg HY.out.1.r6 cw (fun _ _ x => x)) h2 (by omega)
            have HKN : 2 ≤ l.length → Hid (∀ w' p7 c7, Chg (fun _ => False) wr w' → IReads w' p7 (swB l.length) → Calls Try.prog 11 #[.slice p5 l.length c5, .slice p7 l.length c7] w' fun e W' => e = .returned (.bool false) ∧ Chg (fun _ => False) w' W') := fun h2 w' p7 c7 cw hi7 => by
              have sl : (swB l.length).length = l.length := by simp [swB, ordB_length]
              have e := h_keeps p5 p7 c5 c7 (spsB l.length) (swB l.length) w' (HY.out.2.2.1.chg cw (fun _ _ x => x)) hi7 (by rw [spsB_length]; omega) (by rw [sl]; omega)
              rw [spsB_length, sl] at e
              refine e.mono ?_
              rintro e w2 ⟨v, rfl, ⟨hye, _⟩ | ⟨_, rfl⟩, hc⟩
              · exact absurd hye (not_keeps_swB h2)
              · exact ⟨rfl, hc⟩
            have HCW : Hid (Chg (fun _ => False) W wr) := HY.out.1.chg
            clear HR HY HA HQ HI
            by_cases h2 : 2 ≤ l.length
            · have t2 : ¬ (l.length : Int) < 2 := by omega
              have HSW' := HSW h2
              have HKN' := HKN h2
              clear HSW HKN h2 hN
              go_wp2_with fail
              refine HRR.out.mono ?_
              rintro e w4 ⟨rfl, C4⟩
              have HC4 := keepH C4
              clear C4
              go_wp2_with fail
              refine (HKP.out w4 HC4.out).mono ?_
              rintro e w5 ⟨rfl, C5⟩
              have HC5 : Hid (Chg (fun _ => False) wr w5) := HC4.out.trans C5 (fun _ _ x => x) (fun _ _ x => x)
              clear C5
              go_wp2_with fail
              refine (HSW'.out w5 HC5.out).mono ?_
              rintro e w6 ⟨⟨p7, c7, rfl, hi7⟩, C6⟩
              have HC6 : Hid (Chg (fun _ => False) wr w6) := HC5.out.trans C6 (fun _ _ x => x) (fun _ _ x => x)
              have HI7 := keepH hi7
              clear C6 hi7
              go_wp2_with fail
              refine (HKN'.out w6 p7 c7 HC6.out HI7.out).mono ?_
              rintro e w7 ⟨rfl, C7⟩
              have HC7 : Hid (Chg (fun _ => False) wr w7) := HC6.out.trans C7 (fun _ _ x => x) (fun _ _ x => x)
              clear C7
              go_wp2_with fail
              go_ret
              exact ⟨by simp, HCW.out.trans HC7.out (fun _ _ x => x) (fun _ _ x => x)⟩
            · have t2 : (l.length : Int) < 2 := by omega
              clear HSW HKN h2 hN
              go_wp2_with fail
              refine HRR.out.mono ?_
              rintro e w4 ⟨rfl, C4⟩
              have HC4 := keepH C4
              clear C4
              go_wp2_with fail
              refine (HKP.out w4 HC4.out).mono ?_
              rintro e w5 ⟨rfl, C5⟩
              have HC5 : Hid (Chg (fun _ => False) wr w5) := HC4.out.trans C5 (fun _ _ x => x) (fun _ _ x => x)
              clear C5
              go_wp2_with fail
              go_ret
              exact ⟨by simp, HCW.out.trans HC5.out (fun _ _ x => x) (fun _ _ x => x)⟩
end Go.Proofs.Ytomdnmmghdmpgaa
/- What comes in: operations. -/
namespace Go.Proofs.Ytomdnmmghdmpgaa
open Go.RowKit Go.Joins Go.ChangeShapes Go.WideShapes Go.Deep
set_option linter.unusedVariables false

theorem cut_next {cs f : List Value} {o s : Nat} (h : (cs.drop o).take s = f) : cs.drop o = f ++ cs.drop (o + s) := by
  rw [← h, ← List.drop_drop, List.take_append_drop]
theorem slice_len {H : Type} {enc : TypeId × Value → H} {W : World} {sp : Nat → Bool} {held : Bool} {fuel : Nat} {cs : List Value} {x : DataW H × List MemPlace} {T E : TypeId} (hT : Try.prog.underlying T = some (.slice E)) (hf : DataW.trod enc Try.prog W 0 sp held fuel T cs = some x) {p : Option Addr} {n c : Nat} (hc : cs = [.slice p n c]) : n ≤ maxLen := by
  rcases open_slice hT hf with ⟨hcs, _⟩ | ⟨a, len, cap, m, k, D, Pl, hcs, _, hl, hm, _⟩
  · rw [hc] at hcs; simp at hcs; omega
  · rw [hc] at hcs; simp at hcs; omega
theorem keys_cells {H : Type} {enc : TypeId × Value → H} {W : World} {sp : Nat → Bool} {held : Bool} {fuel : Nat} {cs : List Value} {x : DataW H × List MemPlace} (h : DataW.trod enc Try.prog W 0 sp held fuel 38 cs = some x) :
    ∃ (p : Option Addr) (c : Nat) (l : List Nat), cs = [.slice p l.length c] ∧ KeysAt W p l := by
  obtain ⟨p, n, c, hcs, _, hr⟩ := slice_rows (s := 1) (Q := fun cs => ∃ k : Nat, k < 18446744073709551616 ∧ cs = [.int .u64 (k : Int)]) Try.underlying38 coU (by decide) (fun fuel cs y hy => by
    obtain ⟨z, e, _, w⟩ := DataW.trod_int Try.underlying30 hy
    obtain ⟨k, rfl, hk⟩ := nat_u64 w
    exact ⟨⟨k, hk, e⟩, by rw [e]; rfl⟩) h
  rcases hr with rfl | ⟨bk, off, rfl, hb, hr⟩
  · exact ⟨p, c, [], hcs, .inl rfl⟩
  · obtain ⟨l, hl, hp⟩ := choose_list (P := fun i (k : Nat) => k < 18446744073709551616 ∧ W.cell? ⟨bk, off + i, none⟩ = some (.int .u64 (k : Int))) n (fun i hi => by
      obtain ⟨cs', ⟨k, hk, rfl⟩, hc⟩ := hr i hi
      have := hc 0 _ rfl
      simp at this
      exact ⟨k, hk, this⟩)
    subst hl
    exact ⟨_, c, l, hcs, .inr ⟨bk, off, rfl, hb, hp⟩⟩
theorem pairs_cellsL {H : Type} {enc : TypeId × Value → H} {W : World} {sp : Nat → Bool} {held : Bool} {fuel : Nat} {cs : List Value} {x : DataW H × List MemPlace} (h : DataW.trod enc Try.prog W 0 sp held fuel 31 cs = some x) :
    ∃ (p : Option Addr) (c : Nat) (l : List (Nat × Nat)), cs = [.slice p l.length c] ∧ PairsAt W p l ∧ l.length ≤ maxLen := by
  obtain ⟨p, n, c, hcs, _, _⟩ := slice_rows (s := 2) (Q := fun cs => True) Try.underlying31 coPair (by decide) (fun fuel cs y hy => by
    obtain ⟨xs, n, rfl, rfl, hl, hlen, hh⟩ := DataW.trod_struct Try.underlying64 hy
    rw [coPair] at hl
    exact ⟨trivial, hl⟩) h
  have hl := slice_len Try.underlying31 h hcs
  subst hcs
  obtain ⟨l, hl2, hP⟩ := pairs_open (d := x.1) (ps := x.2) ⟨fuel, by simpa [Value.cells] using h⟩
  subst hl2
  exact ⟨p, c, l, rfl, hP, hl⟩
theorem co_3 : Try.prog.cellsOf 3 = 1 := by kernel_rfl
theorem co_4 : Try.prog.cellsOf 4 = 1 := by kernel_rfl
theorem co_30 : Try.prog.cellsOf 30 = 1 := by kernel_rfl
theorem co_35 : Try.prog.cellsOf 35 = 1 := by kernel_rfl
theorem co_37 : Try.prog.cellsOf 37 = 3 := by kernel_rfl
theorem co_38 : Try.prog.cellsOf 38 = 1 := by kernel_rfl
theorem co_40 : Try.prog.cellsOf 40 = 11 := by kernel_rfl
theorem open_37 {H : Type} {enc : TypeId × Value → H} {W : World} {sp : Nat → Bool} {held : Bool} {fuel : Nat} {cs : List Value} {x : DataW H × List MemPlace} (hf : DataW.trod enc Try.prog W 0 sp held fuel 37 cs = some x) : ∃ (r5 : Bool) (r6 : Int) (r7 : Int), cs = [.bool r5, .int .i64 r6, .int .i64 r7] := by
  obtain ⟨xs, n, hn, hx, hl, hlen, hh⟩ := DataW.trod_struct Try.underlying37 hf
  rw [co_37] at hl
  have h0 := (hh 0 _ rfl).trans (List.getElem?_eq_getElem (show 0 < xs.length by rw [hlen]; decide))
  obtain ⟨r5, e0, _⟩ := DataW.trod_bool Try.underlying4 h0
  have y0 : (cs.drop 0).take (Try.prog.cellsOf 4) = _ := e0
  rw [co_4] at y0
  have s0 : cs.drop 0 = _ ++ cs.drop 1 := cut_next y0
  have h1 := (hh 1 _ rfl).trans (List.getElem?_eq_getElem (show 1 < xs.length by rw [hlen]; decide))
  obtain ⟨r6, e1, _, _⟩ := DataW.trod_int Try.underlying3 h1
  have y1 : (cs.drop 1).take (Try.prog.cellsOf 3) = _ := e1
  rw [co_3] at y1
  have s1 : cs.drop 1 = _ ++ cs.drop 2 := cut_next y1
  have h2 := (hh 2 _ rfl).trans (List.getElem?_eq_getElem (show 2 < xs.length by rw [hlen]; decide))
  obtain ⟨r7, e2, _, _⟩ := DataW.trod_int Try.underlying3 h2
  have y2 : (cs.drop 2).take (Try.prog.cellsOf 3) = _ := e2
  rw [co_3] at y2
  have s2 : cs.drop 2 = _ ++ cs.drop 3 := cut_next y2
  have z : cs.drop 3 = [] := List.drop_eq_nil_of_le (by omega)
  rw [z] at s2
  rw [s2] at s1
  rw [s1] at s0
  exact ⟨r5, r6, r7, (List.drop_zero (l := cs)).symm.trans s0⟩
theorem open_40 {H : Type} {enc : TypeId × Value → H} {W : World} {sp : Nat → Bool} {held : Bool} {fuel : Nat} {cs : List Value} {x : DataW H × List MemPlace} (hf : DataW.trod enc Try.prog W 0 sp held fuel 40 cs = some x) : ∃ (kd : Int) (k : Nat) (v : Nat) (od : Nat) (hk : Nat) (r5 : Bool) (r6 : Int) (r7 : Int) (ksp : Option Addr) (ksc : Nat) (ks : List Nat) (lo : Nat) (hi : Nat), cs = [.int .u8 kd, .int .u64 (k : Int), .int .u64 (v : Int), .int .u64 (od : Int), .int .u64 (hk : Int), .bool r5, .int .i64 r6, .int .i64 r7, .slice ksp ks.length ksc, .int .u64 (lo : Int), .int .u64 (hi : Int)] ∧ k < 18446744073709551616 ∧ v < 18446744073709551616 ∧ od < 18446744073709551616 ∧ hk < 18446744073709551616 ∧ KeysAt W ksp ks ∧ lo < 18446744073709551616 ∧ hi < 18446744073709551616 := by
  obtain ⟨xs, n, hn, hx, hl, hlen, hh⟩ := DataW.trod_struct Try.underlying40 hf
  rw [co_40] at hl
  have h0 := (hh 0 _ rfl).trans (List.getElem?_eq_getElem (show 0 < xs.length by rw [hlen]; decide))
  obtain ⟨kd, e0, _, _⟩ := DataW.trod_int Try.underlying35 h0
  have y0 : (cs.drop 0).take (Try.prog.cellsOf 35) = _ := e0
  rw [co_35] at y0
  have s0 : cs.drop 0 = _ ++ cs.drop 1 := cut_next y0
  have h1 := (hh 1 _ rfl).trans (List.getElem?_eq_getElem (show 1 < xs.length by rw [hlen]; decide))
  obtain ⟨z_k, e1, _, w_k⟩ := DataW.trod_int Try.underlying30 h1
  obtain ⟨k, rfl, f_k⟩ := nat_u64 w_k
  have y1 : (cs.drop 1).take (Try.prog.cellsOf 30) = _ := e1
  rw [co_30] at y1
  have s1 : cs.drop 1 = _ ++ cs.drop 2 := cut_next y1
  have h2 := (hh 2 _ rfl).trans (List.getElem?_eq_getElem (show 2 < xs.length by rw [hlen]; decide))
  obtain ⟨z_v, e2, _, w_v⟩ := DataW.trod_int Try.underlying30 h2
  obtain ⟨v, rfl, f_v⟩ := nat_u64 w_v
  have y2 : (cs.drop 2).take (Try.prog.cellsOf 30) = _ := e2
  rw [co_30] at y2
  have s2 : cs.drop 2 = _ ++ cs.drop 3 := cut_next y2
  have h3 := (hh 3 _ rfl).trans (List.getElem?_eq_getElem (show 3 < xs.length by rw [hlen]; decide))
  obtain ⟨z_od, e3, _, w_od⟩ := DataW.trod_int Try.underlying30 h3
  obtain ⟨od, rfl, f_od⟩ := nat_u64 w_od
  have y3 : (cs.drop 3).take (Try.prog.cellsOf 30) = _ := e3
  rw [co_30] at y3
  have s3 : cs.drop 3 = _ ++ cs.drop 4 := cut_next y3
  have h4 := (hh 4 _ rfl).trans (List.getElem?_eq_getElem (show 4 < xs.length by rw [hlen]; decide))
  obtain ⟨z_hk, e4, _, w_hk⟩ := DataW.trod_int Try.underlying30 h4
  obtain ⟨hk, rfl, f_hk⟩ := nat_u64 w_hk
  have y4 : (cs.drop 4).take (Try.prog.cellsOf 30) = _ := e4
  rw [co_30] at y4
  have s4 : cs.drop 4 = _ ++ cs.drop 5 := cut_next y4
  have h5 := (hh 5 _ rfl).trans (List.getElem?_eq_getElem (show 5 < xs.length by rw [hlen]; decide))
  obtain ⟨r5, r6, r7, e5⟩ := open_37 h5
  have y5 : (cs.drop 5).take (Try.prog.cellsOf 37) = _ := e5
  rw [co_37] at y5
  have s5 : cs.drop 5 = _ ++ cs.drop 8 := cut_next y5
  have h6 := (hh 6 _ rfl).trans (List.getElem?_eq_getElem (show 6 < xs.length by rw [hlen]; decide))
  obtain ⟨ksp, ksc, ks, e6, f_ks⟩ := keys_cells h6
  have y6 : (cs.drop 8).take (Try.prog.cellsOf 38) = _ := e6
  rw [co_38] at y6
  have s6 : cs.drop 8 = _ ++ cs.drop 9 := cut_next y6
  have h7 := (hh 7 _ rfl).trans (List.getElem?_eq_getElem (show 7 < xs.length by rw [hlen]; decide))
  obtain ⟨z_lo, e7, _, w_lo⟩ := DataW.trod_int Try.underlying30 h7
  obtain ⟨lo, rfl, f_lo⟩ := nat_u64 w_lo
  have y7 : (cs.drop 9).take (Try.prog.cellsOf 30) = _ := e7
  rw [co_30] at y7
  have s7 : cs.drop 9 = _ ++ cs.drop 10 := cut_next y7
  have h8 := (hh 8 _ rfl).trans (List.getElem?_eq_getElem (show 8 < xs.length by rw [hlen]; decide))
  obtain ⟨z_hi, e8, _, w_hi⟩ := DataW.trod_int Try.underlying30 h8
  obtain ⟨hi, rfl, f_hi⟩ := nat_u64 w_hi
  have y8 : (cs.drop 10).take (Try.prog.cellsOf 30) = _ := e8
  rw [co_30] at y8
  have s8 : cs.drop 10 = _ ++ cs.drop 11 := cut_next y8
  have z : cs.drop 11 = [] := List.drop_eq_nil_of_le (by omega)
  rw [z] at s8
  rw [s8] at s7
  rw [s7] at s6
  rw [s6] at s5
  rw [s5] at s4
  rw [s4] at s3
  rw [s3] at s2
  rw [s2] at s1
  rw [s1] at s0
  exact ⟨kd, k, v, od, hk, r5, r6, r7, ksp, ksc, ks, lo, hi, (List.drop_zero (l := cs)).symm.trans s0, f_k, f_v, f_od, f_hk, f_ks, f_lo, f_hi⟩
theorem op_open {H : Type} {enc : TypeId × Value → H} {W : World} {sp : Nat → Bool} {held : Bool} {fuel : Nat} {cs : List Value} {x : DataW H × List MemPlace} (hf : DataW.trod enc Try.prog W 0 sp held fuel 40 cs = some x) : (∃ y : OpI, cs = y.cs ∧ y.Ok W) ∧ cs.length = 11 := by
  obtain ⟨kd, k, v, od, hk, r5, r6, r7, ksp, ksc, ks, lo, hi, e, f1, f2, f3, f4, f5, f6, f7⟩ := open_40 hf
  exact ⟨⟨⟨⟨kd, k, v, od, hk, ks, lo, hi⟩, r5, r6, r7, ksp, ksc⟩, e, ⟨⟨f1, f2, f3, f4, f6, f7⟩, f5⟩⟩, by rw [e]; rfl⟩
theorem ops_open {H : Type} {enc : TypeId × Value → H} {W : World} {sp : Nat → Bool} {held : Bool} {p : Option Addr} {n c : Nat} {d : DataW H} {ps : List MemPlace} (h : DataW.Trod enc Try.prog W 0 sp held 22 (.slice p n c) d ps) : ∃ l : List OpI, l.length = n ∧ OpsAt W p l := by
  obtain ⟨fuel, hf⟩ := h
  obtain ⟨p', n', c', hcs, _, hr⟩ := slice_rows (s := 11) (Q := fun cs => ∃ y : OpI, cs = y.cs ∧ y.Ok W) Try.underlying22 co_40 (by decide) (fun fuel cs y hy => op_open hy) hf
  simp [Value.cells] at hcs
  obtain ⟨rfl, rfl, rfl⟩ := hcs
  rcases hr with rfl | ⟨bk, off, rfl, hb, hr⟩
  · exact ⟨[], rfl, .inl rfl⟩
  · obtain ⟨l, hl, hp⟩ := choose_list (P := fun i y => OpI.Ok W y ∧ ∀ j v, y.cs[j]? = some v → W.cell? ⟨bk, off + i * 11 + j, none⟩ = some v) n (fun i hi => by
      obtain ⟨cs', ⟨y, rfl, hy⟩, hc⟩ := hr i hi
      exact ⟨y, hy, fun j v hj => by rw [Nat.add_assoc]; exact hc j v hj⟩)
    exact ⟨l, hl, .inr ⟨bk, off, rfl, hb, hp⟩⟩
theorem bytesOp : Try.prog.bytesOf 40 = 104 := by kernel_rfl
theorem slice_size {H : Type} {enc : TypeId × Value → H} {W : World} {sp : Nat → Bool} {held : Bool} {p : Option Addr} {n c : Nat} {d : DataW H} {ps : List MemPlace} {T E : TypeId} {ts : List TypeId} {ds : List (DataW H)} {j : Nat} (hT : Try.prog.underlying T = some (.slice E)) (h : DataW.Trod enc Try.prog W 0 sp held T (.slice p n c) d ps)
    (hsz : (DataW.weightsEach Try.prog ts ds).all (· ≤ reachBytes) = true) (ht : ts[j]? = some T) (hd : ds[j]? = some d) : n * Try.prog.bytesOf E ≤ reachBytes := by
  obtain ⟨fuel, hf⟩ := h
  rcases open_slice hT hf with ⟨hcs, _⟩ | ⟨a, len, cap, m, k, D, Pl, hcs, _, hl, hm, hme, hx, hi⟩
  · simp [Value.cells] at hcs
    obtain ⟨rfl, rfl, rfl⟩ := hcs
    simp
  · simp [Value.cells] at hcs
    obtain ⟨rfl, rfl, rfl⟩ := hcs
    simp only [Prod.mk.injEq] at hx
    rw [hx.1] at hd
    have sz := sized_slice hsz ht hd hT
    refine Nat.le_trans (Nat.mul_le_mul_right _ ?_) sz
    simp
end Go.Proofs.Ytomdnmmghdmpgaa
