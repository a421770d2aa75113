/- The pictures of two models held against each other. -/
import Derived.Test.YtgddedoinhgocaaNm
namespace Go.Proofs.Ytgddedoinhgocaa
open Go.RowKit Go.Maps Go.Shelf
open Go.WideElems (Fit rd rg rd_val rg_of)
set_option linter.unusedVariables false

theorem own_unique {H : Type} {R : Value → Option (DataW H × List MemPlace)} {W : World} {b n n' : Nat} {D D' : DataW H} (h : W.ownsMap Try.prog 24 R b n D) (h' : W.ownsMap Try.prog 24 R b n' D') : D = D' := by
  obtain ⟨es, c, hb, _, _, rfl⟩ := h
  obtain ⟨es', c', hb', _, _, rfl⟩ := h'
  rw [hb] at hb'
  simp only [Option.some.injEq, Obj.map.injEq] at hb'
  rw [hb'.1]
def OwnC (W : World) (b : Nat) : Prop := ∃ n D, W.ownsMap (H := Unit) Try.prog 24 (plainElem Try.prog 24) b n D
open Classical in
noncomputable def heldS (W : World) (v : Value) : Option (DataW (Option Nat) × List MemPlace) := match v with
  | .map (some b) => if OwnC W b then some (.held (some b), []) else none
  | .map none => some (.held none, [])
  | _ => none
open Classical in
noncomputable def Dp (W : World) (p : Option Nat) : DataW Unit := match p with
  | some b => if h : OwnC W b then h.choose_spec.choose else .nil
  | none => .nil
theorem Dp_own {W : World} {b : Nat} (h : OwnC W b) : ∃ n, W.ownsMap Try.prog 24 (plainElem Try.prog 24) b n (Dp W (some b)) := by
  refine ⟨h.choose, ?_⟩
  have e : Dp W (some b) = h.choose_spec.choose := dif_pos h
  rw [e]
  exact h.choose_spec.choose_spec
theorem heldS_inv {W : World} {v : Value} {d : DataW (Option Nat)} {ps : List MemPlace} (h : heldS W v = some (d, ps)) : ∃ p, v = .map p ∧ d = .held p ∧ SrcOf Try.prog 24 (plainElem Try.prog 24) W p (Dp W p) := by
  unfold heldS at h
  split at h
  · rename_i b
    split at h
    · rename_i ho
      simp at h
      obtain ⟨n, hn⟩ := Dp_own ho
      exact ⟨some b, rfl, h.1.symm, .inr ⟨b, n, rfl, hn⟩⟩
    · cases h
  · simp at h
    exact ⟨none, rfl, h.1.symm, .inl ⟨rfl, rfl⟩⟩
  · cases h
noncomputable def eqH (W : World) : DataW (Option Nat) → DataW (Option Nat) → Bool
  | .held p, .held q => Lib.equalFuncD eqU (Dp W p) (Dp W q)
  | _, _ => false
theorem held_own {W : World} {b n : Nat} {h : Nat → Option Nat} (H : HeldAt W b n h) (hp : ∀ k b, h k = some b → OwnC W b) : ∃ n D, W.ownsMap Try.prog 24 (heldS W) b n D ∧ RdM elH (fun _ => True) D h := by
  obtain ⟨D, ho, r⟩ := H
  obtain ⟨es, rfl, hap, hks⟩ := key_shape ho
  obtain ⟨es0, clock, hb, F, hs, hD⟩ := ho
  refine ⟨_, _, World.ownsMap_of_fit hb F (R := heldS W) (fun x hx z hz => ?_), by rw [← hD]; exact r⟩
  have hm : rg Try.prog 24 heldM x ∈ es := by
    rw [DataW.map.inj hD, mem_sorted]
    exact List.mem_map.2 ⟨x, hx, rfl⟩
  obtain ⟨y, hy⟩ := F.reads x hx
  rw [rg_of hy] at hm
  obtain ⟨k, e⟩ := hks y hm
  obtain ⟨y1, y2⟩ := y
  simp only at e
  subst e
  obtain ⟨v, hv, rfl⟩ := r.entry hap hm
  obtain ⟨z', hz', e2⟩ := rd_val hy
  rw [hz] at hz'
  obtain rfl := Option.some.inj hz'
  unfold heldM at hz
  split at hz
  · rename_i p hxv
    obtain rfl := Option.some.inj hz
    simp [elH] at e2
    subst e2
    rw [hxv]
    unfold heldS
    simp [hp k v hv]
  · cases hz
theorem equalF_true {W : World} {b1 b2 n1 n2 : Nat} {h1 h2 : Nat → Option Nat} {g1 g2 : Nat → Nat → Option Nat} (H1 : HeldAt W b1 n1 h1) (H2 : HeldAt W b2 n2 h2) (p1 : ∀ k b, h1 k = some b → ∃ n, MapAt W b n (g1 b)) (p2 : ∀ k b, h2 k = some b → ∃ n, MapAt W b n (g2 b)) (he : pcs h1 g1 = pcs h2 g2) :
    Calls Try.prog 21 #[.map (some b1), .map (some b2), .func (.func 20) #[] #[]] W fun e W' => e = .returned (.bool true) ∧ Chg (fun _ => False) W W' := by
  have o1 : ∀ k b, h1 k = some b → OwnC W b := fun k b hb => by
    obtain ⟨n, D, ho, _⟩ := p1 k b hb
    exact ⟨n, D, ho⟩
  have o2 : ∀ k b, h2 k = some b → OwnC W b := fun k b hb => by
    obtain ⟨n, D, ho, _⟩ := p2 k b hb
    exact ⟨n, D, ho⟩
  obtain ⟨m1, D1, q1, r1⟩ := held_own H1 o1
  obtain ⟨m2, D2, q2, r2⟩ := held_own H2 o2
  have eg : ∀ args w, (callFunc 20 args).run Try.prog w = .ok (.enter 20 args) w := enters_of Try.func20 (by kernel_rfl) rfl
  have hcon := AnyEq.maps_EqualFunc_opt Try.laysMF K64 (heldS W) (heldS W) (eqH W) 20 #[] (some b1) (some b2) D1 D2 W eg (.inr ⟨b1, m1, rfl, q1⟩) (.inr ⟨b2, m2, rfl, q2⟩) (.map none) zeroC (.held none) [] rfl
    (fun W' x y xd yd xp yp hg hx hy => by
      obtain ⟨p, rfl, rfl, s1⟩ := heldS_inv hx
      obtain ⟨q, rfl, rfl, s2⟩ := heldS_inv hy
      exact equal_any (s1.kept hg (by cases p <;> simp)) (s2.kept hg (by cases q <;> simp)))
  refine hcon.mono ?_
  rintro e W' ⟨rfl, hg⟩
  refine ⟨?_, grown_chg hg (fun k e => by simp at e)⟩
  congr 2
  obtain ⟨es1, rfl, hap1, hks1⟩ := key_shape q1
  obtain ⟨es2, rfl, hap2, hks2⟩ := key_shape q2
  have hes : ∀ k, (h1 k).isSome = (h2 k).isSome := fun k => by
    have := congrArg Option.isSome (congrFun he k)
    simpa [pcs] using this
  unfold Lib.equalFuncD
  rw [decide_eq_true (show Maps.size (.map es1) = Maps.size (.map es2) from size_like r1 r2 hap1 hap2 hks1 hks2 hes), Bool.true_and]
  refine List.all_eq_true.2 (fun p hp => ?_)
  obtain ⟨q, d⟩ := p
  obtain ⟨k, e⟩ := hks1 _ hp
  simp only at e
  subst e
  obtain ⟨v, hv, rfl⟩ := r1.entry hap1 hp
  have hk := congrFun he k
  simp only [pcs, hv, Option.map_some] at hk
  obtain ⟨v2, hv2, hgg⟩ : ∃ v2, h2 k = some v2 ∧ g2 v2 = g1 v := by
    cases h2k : h2 k with
    | none => rw [h2k] at hk; cases hk
    | some v2 => rw [h2k] at hk; injection hk with hk; exact ⟨v2, rfl, hk.symm⟩
  unfold Lib.goodD
  simp only
  rw [r2.has k, hv2, r2.val k v2 hv2]
  show (true && Lib.equalFuncD eqU (Dp W (some v)) (Dp W (some v2))) = true
  rw [Bool.true_and]
  obtain ⟨x1, y1⟩ := Dp_own (o1 k v hv)
  obtain ⟨x2, y2⟩ := Dp_own (o2 k v2 hv2)
  obtain ⟨n3, D3, ho3, r3⟩ := p1 k v hv
  obtain ⟨n4, D4, ho4, r4⟩ := p2 k v2 hv2
  rw [hgg] at r4
  refine eq_like y1 y2 (ok := fun v => v < 18446744073709551616) (f := g1 v) ?_ ?_
  · rw [own_unique y1 ho3]; exact r3
  · rw [own_unique y2 ho4]; exact r4
end Go.Proofs.Ytgddedoinhgocaa
