/- A map keyed by moments (a thread, a step): what it has; looks and stores. -/
import Derived.Test.YtjodechhnobkhaaGreatDoorRpd
import Derived.Lib.SmallJoins
import Derived.Deep.Slices
import Derived.Carry
import Derived.OpenShut
import Derived.Deep.Cut
import Derived.Deep.CutBlock
import Derived.Deep.DeepCutAuto
import Derived.MapViews
import Derived.DeepKeys4
import Derived.Maps.Keyed
import Derived.Deep.RegionHeld3
import Derived.Deep.MidRow
namespace Go.Proofs.YtjodechhnobkhaaGreatDoor
open Go.RowKit Go.Joins
set_option linter.unusedVariables false

def momV (k : Int × Int) : Value := .agg #[.int .i64 k.1, .int .i64 k.2]
def isI (z : Int) : Prop := -9223372036854775808 ≤ z ∧ z < 9223372036854775808
def momOk (k : Int × Int) : Prop := isI k.1 ∧ isI k.2
theorem momV_inj {a b : Int × Int} (h : momV a = momV b) : a = b := by
  unfold momV at h
  simp at h
  exact Prod.ext h.1 h.2
theorem wf_i64 {n : Int} (h : isI n) : (Lit.int .i64 n).wf = true := by
  have e1 : IntKind.i64.min = -9223372036854775808 := by decide
  have e2 : IntKind.i64.max = 9223372036854775807 := by decide
  unfold isI at h
  simp [Lit.wf, e1, e2]
  omega
theorem trod_i (n : Int) (h : isI n) (w : World) : ∃ m, DataW.trod (H := Unit) (fun _ => ()) Tryz.prog w 0 (fun _ => true) true m 3 [.int .i64 n] = some (.lit (.int .i64 n), []) :=
  ⟨1, by simp [DataW.trod, Tryz.underlying3, wf_i64 h]⟩
theorem mom_key (k : Int × Int) (h : momOk k) (w : World) : ∃ l, keyOf Tryz.prog 61 (momV k) = some l := by
  have t := shut_agg2 (enc := fun _ => ()) (P := Tryz.prog) (w := w) (base := 0) (spare := fun _ => true) (held := true) Tryz.underlying61 (by kernel_rfl) (by kernel_rfl) (trod_i k.1 h.1 w) (trod_i k.2 h.2 w)
  exact ⟨_, (keyOf_asKey (by kernel_rfl) (by kernel_rfl) (by kernel_rfl) t).1⟩
theorem mom_law : WideMaps.KeyLaw Tryz.prog 61 := deep_law (m := 3) (by omega) (by kernel_rfl) (by kernel_rfl) (by kernel_rfl)

def KM (W : World) (b : Nat) (ks : List (Int × Int)) : Prop := ∃ es c, W.heap[b]? = some (.map es c) ∧ (∀ e ∈ es.toList, ∃ k, momOk k ∧ e.key = momV k ∧ e.val = .agg #[]) ∧ ∀ k, (∃ e ∈ es.toList, e.key = momV k) ↔ k ∈ ks
theorem KM.on {W X : World} {b : Nat} {ks : List (Int × Int)} (h : KM W b ks) (hb : Below W.heap.size W X) : KM X b ks := by
  obtain ⟨es, c, h1, h2, h3⟩ := h
  exact ⟨es, c, by rw [hb.block b (Array.getElem?_eq_some_iff.1 h1).1]; exact h1, h2, h3⟩
theorem KM.lt {W : World} {b : Nat} {ks : List (Int × Int)} (h : KM W b ks) : b < W.heap.size := by
  obtain ⟨es, c, h1, _⟩ := h
  exact (Array.getElem?_eq_some_iff.1 h1).1
theorem KM.find {W : World} {b : Nat} {ks : List (Int × Int)} {es : Array MapEntry} (h2 : ∀ e ∈ es.toList, ∃ k, momOk k ∧ e.key = momV k ∧ e.val = .agg #[]) (h3 : ∀ k, (∃ e ∈ es.toList, e.key = momV k) ↔ k ∈ ks) (k : Int × Int) (hk : momOk k) (w : World) :
    ((Instr.findKey 61 (momV k) es.toList).run Tryz.prog w = .ok none w ∧ k ∉ ks) ∨ ∃ j e, (Instr.findKey 61 (momV k) es.toList).run Tryz.prog w = .ok (some (j, .agg #[])) w ∧ es.toList[j]? = some e ∧ e.key = momV k ∧ k ∈ ks := by
  obtain ⟨l, hl⟩ := mom_key k hk w
  rcases mom_law.find w hl es.toList (fun e he => by
    obtain ⟨q, hq, e1, _⟩ := h2 e he
    rw [e1]
    exact mom_key q hq w) with ⟨r, hn⟩ | ⟨j, e, r, he, hk'⟩
  · refine .inl ⟨r, fun hm => ?_⟩
    obtain ⟨e, he, e1⟩ := (h3 k).2 hm
    exact hn e he e1
  · have hm := List.mem_of_getElem? he
    obtain ⟨q, hq, _, e2⟩ := h2 e hm
    rw [e2] at r
    exact .inr ⟨j, e, r, he, hk', (h3 k).1 ⟨e, hm, hk'⟩⟩
theorem km_look {W : World} {b : Nat} {ks : List (Int × Int)} (h : KM W b ks) (k : Int × Int) (hk : momOk k) :
    (Instr.lookup 58 (.map (some b)) (momV k) true).run Tryz.prog W = .ok (.tuple #[.agg #[], .bool (decide (k ∈ ks))]) W := by
  obtain ⟨es, c, h1, h2, h3⟩ := h
  obtain ⟨l, hl⟩ := mom_key k hk W
  have hck := mom_law.check W es.isEmpty hl
  have hz : (zeroValue 106).run Tryz.prog W = .ok (.agg #[]) W := by kernel_rfl
  rcases KM.find (W := W) (b := b) h2 h3 k hk W with ⟨r, hn⟩ | ⟨j, e, r, _, _, hm⟩
  · simp [Instr.lookup, run_underlying Tryz.underlying58, MapKept.run_getObj_map h1, hck, r, Result.andThen, hz, hn]
  · simp [Instr.lookup, run_underlying Tryz.underlying58, MapKept.run_getObj_map h1, hck, r, Result.andThen, hm]
theorem setBlock_at {w : World} {b : Nat} {o : Obj} (hb : w.heap[b]? = some o) (o' : Obj) : (ChangeMaps.setBlock w b o').heap[b]? = some o' := by
  show (w.heap.setIfInBounds b o')[b]? = some o'
  rw [Array.getElem?_setIfInBounds_self_of_lt (Array.getElem?_eq_some_iff.1 hb).1]
theorem setBlock_bel {w : World} {b B : Nat} (o' : Obj) (hB : B ≤ b) : Below B w (ChangeMaps.setBlock w b o') :=
  ⟨rfl, rfl, rfl, by simp [ChangeMaps.setBlock], fun k hk => by
    show (w.heap.setIfInBounds b o')[k]? = w.heap[k]?
    rw [Array.getElem?_setIfInBounds_ne (by omega)]⟩
theorem setBlock_ne {w : World} {b x : Nat} (o' : Obj) (hx : x ≠ b) : (ChangeMaps.setBlock w b o').heap[x]? = w.heap[x]? := by
  show (w.heap.setIfInBounds b o')[x]? = w.heap[x]?
  rw [Array.getElem?_setIfInBounds_ne (by omega)]
theorem km_put {W : World} {b : Nat} {ks : List (Int × Int)} (h : KM W b ks) (k : Int × Int) (hk : momOk k) :
    ∃ W', (Instr.mapUpdate 58 (.map (some b)) (momV k) (.agg #[])).run Tryz.prog W = .ok () W' ∧ KM W' b (ks ++ [k]) ∧ (∀ B, B ≤ b → Below B W W') ∧ W'.heap.size = W.heap.size ∧ ∀ x, x ≠ b → W'.heap[x]? = W.heap[x]? := by
  obtain ⟨es, c, h1, h2, h3⟩ := h
  obtain ⟨l, hl⟩ := mom_key k hk W
  have hck := mom_law.check W false hl
  have hst := mom_law.stays W hl
  rcases KM.find (W := W) (b := b) h2 h3 k hk W with ⟨r, hn⟩ | ⟨j, e, r, he, hk', hm⟩
  · refine ⟨ChangeMaps.setBlock W b (.map (es.push { key := momV k, val := .agg #[], born := c }) (c + 1)), by simp [Instr.mapUpdate, run_underlying Tryz.underlying58, MapKept.run_getObj_map h1, hck, r, MapKept.run_setObj_map _ h1, Result.andThen, ChangeMaps.setBlock], ⟨_, _, setBlock_at h1 _, ?_, ?_⟩, fun B hB => setBlock_bel _ hB, by simp [ChangeMaps.setBlock], fun x hx => setBlock_ne _ hx⟩
    · intro e he
      simp only [Array.toList_push, List.mem_append, List.mem_singleton] at he
      rcases he with he | rfl
      · exact h2 e he
      · exact ⟨k, hk, rfl, rfl⟩
    · intro q
      simp only [Array.toList_push, List.mem_append, List.mem_singleton]
      constructor
      · rintro ⟨e, he | rfl, e1⟩
        · exact .inl ((h3 q).1 ⟨e, he, e1⟩)
        · exact .inr (momV_inj e1).symm
      · rintro (hq | rfl)
        · obtain ⟨e, he, e1⟩ := (h3 q).2 hq
          exact ⟨e, .inl he, e1⟩
        · exact ⟨_, .inr rfl, rfl⟩
  · have he' : es[j]? = some e := by simpa using he
    have hlt : j < es.size := (Array.getElem?_eq_some_iff.1 he').1
    have hst' : (Instr.keyThatStays (((es[j]?).map (·.key)).getD (momV k)) (momV k)).run Tryz.prog W = .ok (momV k) W := by
      rw [he']
      simp only [Option.map_some, Option.getD_some, hk']
      exact hst
    refine ⟨ChangeMaps.setBlock W b (.map (es.modify j fun e => { e with key := momV k, val := .agg #[] }) c), by simp only [Instr.mapUpdate, Sem.run_bind, run_underlying Tryz.underlying58, MapKept.run_getObj_map h1, hck, r, Result.andThen, hst', MapKept.run_setObj_map _ h1]; rfl, ⟨_, _, setBlock_at h1 _, ?_, ?_⟩, fun B hB => setBlock_bel _ hB, by simp [ChangeMaps.setBlock], fun x hx => setBlock_ne _ hx⟩
    · intro x hx
      obtain ⟨i, hi, rfl⟩ := List.getElem_of_mem hx
      simp only [Array.getElem_toList, Array.getElem_modify]
      split
      · exact ⟨k, hk, rfl, rfl⟩
      · exact h2 _ (by simp)
    · have hks : ∀ i (hi : i < es.size), ((es.modify j fun e => { e with key := momV k, val := .agg #[] })[i]'(by simpa using hi)).key = (es[i]).key := by
        intro i hi
        rw [Array.getElem_modify]
        split
        · rename_i hji
          subst hji
          have := Array.getElem?_eq_some_iff.1 he'
          rw [this.2, hk']
        · rfl
      intro q
      rw [List.mem_append, List.mem_singleton]
      constructor
      · rintro ⟨x, hx, e1⟩
        obtain ⟨i, hi, rfl⟩ := List.getElem_of_mem hx
        simp only [Array.length_toList, Array.size_modify] at hi
        simp only [Array.getElem_toList] at e1
        rw [hks i hi] at e1
        exact .inl ((h3 q).1 ⟨es[i], by simp, e1⟩)
      · intro hq
        have hq' : q ∈ ks := by
          rcases hq with hq | rfl
          · exact hq
          · exact hm
        obtain ⟨x, hx, e1⟩ := (h3 q).2 hq'
        obtain ⟨i, hi, rfl⟩ := List.getElem_of_mem hx
        simp only [Array.length_toList] at hi
        refine ⟨(es.modify j fun e => { e with key := momV k, val := .agg #[] })[i]'(by simpa using hi), Array.mem_toList_iff.2 (Array.getElem_mem _), ?_⟩
        rw [hks i hi]
        simpa using e1
end Go.Proofs.YtjodechhnobkhaaGreatDoor
