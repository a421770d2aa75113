/- What a reading of an operation finds: what is pure. -/
import Derived.Test.YtmmaniolaljjlaaGreatDoorScp
namespace Go.Proofs.YtmmaniolaljjlaaGreatDoor
open Go.RowKit Go.Shelf
set_option linter.unusedVariables false

def HPart (k hnd : Nat) (set : Bool) (rt ri : Int) (pre : List (List UInt8)) : Prop := (hndK k = true ∧ ∃ f1, pre = [f1] ∧ HdQ f1 true hnd set rt ri) ∨ (hndK k = false ∧ pre = [] ∧ hnd = 0 ∧ set = false ∧ rt = 0 ∧ ri = 0)
theorem core {t : List UInt8} {k hnd : Nat} {set : Bool} {rt ri : Int} {pre r1 : List (List UInt8)} (hk : hasK k = true) (hp : HPart k hnd set rt ri pre) (hs : Lib.split t [32] = opW k :: (pre ++ r1)) {o : Opx} (ho : rightO o) (ht : t = textO o) :
    o.k = k ∧ o.hnd = hnd ∧ o.set = set ∧ o.rt = rt ∧ o.ri = ri ∧ r1 = (nuO o).map Lib.decDigits := by
  have R := right_parts ho
  have e := (text_iff t o).1 ht
  rw [hs, R.parts] at e
  simp only [List.cons.injEq] at e
  have hkk : o.k = k := (opW_inj k o.k hk R.has e.1).symm
  have e2 := e.2
  rw [hkk] at e2
  rcases hp with ⟨h1, f1, rfl, hd⟩ | ⟨h1, rfl, rfl, rfl, rfl, rfl⟩
  · rw [h1] at e2
    simp at e2
    obtain ⟨_, q1, q2, q3, q4⟩ := hd.2 o.hnd o.set o.rt o.ri ho.1.hnd ho.1.rt ho.1.ri (R.hd (by rw [hkk]; exact h1)) e2.1
    exact ⟨hkk, q1.symm, q2.symm, q3.symm, q4.symm, e2.2⟩
  · rw [h1] at e2
    obtain ⟨q1, q2, q3, q4⟩ := R.nohd (by rw [hkk]; exact h1)
    exact ⟨hkk, q1, q2, q3, q4, by simpa using e2⟩
theorem no_kind {t f0 : List UInt8} {r0 : List (List UInt8)} (h : ∀ k, hasK k = true → f0 ≠ opW k) (hs : Lib.split t [32] = f0 :: r0) : ∀ o, rightO o → t ≠ textO o := by
  intro o ho ht
  have R := right_parts ho
  have e := (text_iff t o).1 ht
  rw [hs, R.parts] at e
  simp only [List.cons.injEq] at e
  exact h o.k R.has e.1
theorem no_hd {t : List UInt8} {k : Nat} (hk : hasK k = true) (hh : hndK k = true) (hs : Lib.split t [32] = [opW k]) : ∀ o, rightO o → t ≠ textO o := by
  intro o ho ht
  have R := right_parts ho
  have e := (text_iff t o).1 ht
  rw [hs, R.parts] at e
  simp only [List.cons.injEq] at e
  have hkk : o.k = k := (opW_inj k o.k hk R.has e.1).symm
  have e2 := e.2
  rw [hkk, hh] at e2
  simp at e2
theorem no_hd2 {t f1 : List UInt8} {k hnd : Nat} {set : Bool} {rt ri : Int} {r1 : List (List UInt8)} (hk : hasK k = true) (hh : hndK k = true) (hs : Lib.split t [32] = opW k :: f1 :: r1) (hd : HdQ f1 false hnd set rt ri) : ∀ o, rightO o → t ≠ textO o := by
  intro o ho ht
  have R := right_parts ho
  have e := (text_iff t o).1 ht
  rw [hs, R.parts] at e
  simp only [List.cons.injEq] at e
  have hkk : o.k = k := (opW_inj k o.k hk R.has e.1).symm
  have e2 := e.2
  rw [hkk, hh] at e2
  simp at e2
  have := (hd.2 o.hnd o.set o.rt o.ri ho.1.hnd ho.1.rt ho.1.ri (R.hd (by rw [hkk]; exact hh)) e2.1).1
  simp at this
theorem no_nums {t : List UInt8} {k hnd : Nat} {set : Bool} {rt ri : Int} {pre r1 : List (List UInt8)} (hk : hasK k = true) (hp : HPart k hnd set rt ri pre) (hs : Lib.split t [32] = opW k :: (pre ++ r1)) (hm : r1.mapM natP = none) : ∀ o, rightO o → t ≠ textO o := by
  intro o ho ht
  obtain ⟨_, _, _, _, _, e⟩ := core hk hp hs ho ht
  rw [e, natsM_dec _ (nu_u ho.1)] at hm
  simp at hm
theorem nu_of {t : List UInt8} {k hnd : Nat} {set : Bool} {rt ri : Int} {pre r1 : List (List UInt8)} {us : List Nat} (hk : hasK k = true) (hp : HPart k hnd set rt ri pre) (hs : Lib.split t [32] = opW k :: (pre ++ r1)) (hm : r1.mapM natP = some us) {o : Opx} (ho : rightO o) (ht : t = textO o) : us = nuO o ∧ o.k = k := by
  obtain ⟨hkk, _, _, _, _, e⟩ := core hk hp hs ho ht
  rw [e, natsM_dec _ (nu_u ho.1)] at hm
  simp only [Option.some.injEq] at hm
  exact ⟨hm.symm, hkk⟩
theorem numK_7 {k : Nat} (h : kysK k = true) : numK k = [] := by
  unfold kysK at h
  simp at h
  subst h
  rfl
theorem no_keys {t : List UInt8} {k hnd : Nat} {set : Bool} {rt ri : Int} {pre r1 : List (List UInt8)} {us : List Nat} (hk : hasK k = true) (hp : HPart k hnd set rt ri pre) (hs : Lib.split t [32] = opW k :: (pre ++ r1)) (hm : r1.mapM natP = some us) (h7 : kysK k = true) (hl : ¬ us.length ≤ 1024) : ∀ o, rightO o → t ≠ textO o := by
  intro o ho ht
  obtain ⟨e, hkk⟩ := nu_of hk hp hs hm ho ht
  have R := right_parts ho
  have := R.kys (by rw [hkk]; exact h7)
  rw [e] at hl
  unfold nuO at hl
  rw [hkk, numK_7 h7] at hl
  simp at hl
  omega
theorem no_len {t : List UInt8} {k hnd : Nat} {set : Bool} {rt ri : Int} {pre r1 : List (List UInt8)} {us : List Nat} (hk : hasK k = true) (hp : HPart k hnd set rt ri pre) (hs : Lib.split t [32] = opW k :: (pre ++ r1)) (hm : r1.mapM natP = some us) (h7 : kysK k = false) (hl : us.length ≠ (numK k).length) : ∀ o, rightO o → t ≠ textO o := by
  intro o ho ht
  obtain ⟨e, hkk⟩ := nu_of hk hp hs hm ho ht
  have R := right_parts ho
  have := R.nokys (by rw [hkk]; exact h7)
  apply hl
  rw [e]
  unfold nuO
  rw [this, hkk]
  simp
theorem hp_facts {k hnd : Nat} {set : Bool} {rt ri : Int} {pre : List (List UInt8)} (hp : HPart k hnd set rt ri pre) : isU hnd ∧ isI rt ∧ isI ri ∧ (hndK k = true → rhB hnd set rt ri = true) ∧ (hndK k = false → hnd = 0 ∧ set = false ∧ rt = 0 ∧ ri = 0) ∧ pre = (if hndK k = true then [hText hnd set rt ri] else []) := by
  rcases hp with ⟨h1, f1, rfl, hd⟩ | ⟨h1, rfl, rfl, rfl, rfl, rfl⟩
  · obtain ⟨a, b, c, d, e⟩ := hd.1 rfl
    exact ⟨a, b, c, fun _ => d, fun h => by rw [h1] at h; simp at h, by rw [h1, e]; simp⟩
  · exact ⟨by unfold isU; omega, ⟨by omega, by omega⟩, ⟨by omega, by omega⟩, fun h => by rw [h1] at h; simp at h, fun _ => ⟨rfl, rfl, rfl, rfl⟩, by rw [h1]; simp⟩
theorem has_lt {k : Nat} (h : hasK k = true) : k < 256 := by unfold hasK at h; simp at h; omega
theorem yes_keys {t : List UInt8} {k hnd : Nat} {set : Bool} {rt ri : Int} {pre r1 : List (List UInt8)} {us : List Nat} (hk : hasK k = true) (hp : HPart k hnd set rt ri pre) (hs : Lib.split t [32] = opW k :: (pre ++ r1)) (hm : r1.mapM natP = some us) (h7 : kysK k = true) (hl : us.length ≤ 1024) : PQ t true ⟨k, 0, 0, 0, hnd, set, rt, ri, us, 0, 0⟩ := by
  obtain ⟨a1, a2, a3, a4, a5, a6⟩ := hp_facts hp
  obtain ⟨hdec, huu⟩ := natsM_some hm
  have u0 : isU 0 := by unfold isU; omega
  have hr : rightO ⟨k, 0, 0, 0, hnd, set, rt, ri, us, 0, 0⟩ := mk_right ⟨has_lt hk, u0, u0, u0, a1, a2, a3, huu, u0, u0⟩ hk a4 a5 (fun _ => hl) (fun h => by simp only at h; rw [h7] at h; simp at h) (fun _ => rfl) (fun _ => rfl) (fun _ => rfl) (fun _ => rfl) (fun _ => rfl)
  refine ⟨fun _ => ⟨hr, ?_⟩, fun o ho ht => ⟨rfl, ?_⟩⟩
  · rw [text_iff, hs, (right_parts hr).parts]
    unfold nuO
    simp only
    rw [numK_7 h7, a6, hdec]
    simp
  · obtain ⟨c1, c2, c3, c4, c5, c6⟩ := core hk hp hs ho ht
    obtain ⟨e, _⟩ := nu_of hk hp hs hm ho ht
    have R := right_parts ho
    obtain ⟨ok', key', val', old', hnd', set', rt', ri', keys', lo', hi'⟩ := o
    simp only at c1 c2 c3 c4 c5
    subst c1 c2 c3 c4 c5
    have n7 := numK_7 h7
    have q1 := R.z1
    have q2 := R.z2
    have q3 := R.z3
    have q9 := R.z9
    have q10 := R.z10
    simp only [n7] at q1 q2 q3 q9 q10
    unfold nuO at e
    simp only [n7] at e
    simp at e q1 q2 q3 q9 q10
    subst e q1 q2 q3 q9 q10
    rfl
theorem yes_nums {t : List UInt8} {k hnd : Nat} {set : Bool} {rt ri : Int} {pre r1 : List (List UInt8)} {us : List Nat} (hk : hasK k = true) (hp : HPart k hnd set rt ri pre) (hs : Lib.split t [32] = opW k :: (pre ++ r1)) (hm : r1.mapM natP = some us) (h7 : kysK k = false) (hl : us.length = (numK k).length) : PQ t true ⟨k, fk k us 1, fk k us 2, fk k us 3, hnd, set, rt, ri, [], fk k us 9, fk k us 10⟩ := by
  obtain ⟨a1, a2, a3, a4, a5, a6⟩ := hp_facts hp
  obtain ⟨hdec, huu⟩ := natsM_some hm
  have hr : rightO ⟨k, fk k us 1, fk k us 2, fk k us 3, hnd, set, rt, ri, [], fk k us 9, fk k us 10⟩ := mk_right ⟨has_lt hk, fk_u huu 1, fk_u huu 2, fk_u huu 3, a1, a2, a3, fun u hu => by simp at hu, fk_u huu 9, fk_u huu 10⟩ hk a4 a5 (fun h => by simp only at h; rw [h7] at h; simp at h) (fun _ => rfl) (fun h => fk_none us h) (fun h => fk_none us h) (fun h => fk_none us h) (fun h => fk_none us h) (fun h => fk_none us h)
  refine ⟨fun _ => ⟨hr, ?_⟩, fun o ho ht => ⟨rfl, ?_⟩⟩
  · rw [text_iff, hs, (right_parts hr).parts]
    unfold nuO
    simp only
    rw [fk_nums k us hl, a6, hdec]
    simp
  · obtain ⟨c1, c2, c3, c4, c5, c6⟩ := core hk hp hs ho ht
    obtain ⟨e, _⟩ := nu_of hk hp hs hm ho ht
    have R := right_parts ho
    obtain ⟨ok', key', val', old', hnd', set', rt', ri', keys', lo', hi'⟩ := o
    simp only at c1 c2 c3 c4 c5
    subst c1 c2 c3 c4 c5
    have hke := R.nokys h7
    simp only at hke
    subst hke
    unfold nuO at e
    simp only [List.append_nil] at e
    subst e
    obtain ⟨q1, q2, q3, q9, q10⟩ := fk_of ok' key' val' old' lo' hi' R.z1 R.z2 R.z3 R.z9 R.z10
    rw [q1, q2, q3, q9, q10]
/-- a row of numbers that was built, above B -/
def KU (B : Nat) (lp : Option Addr) (us : List Nat) (X : World) : Prop := us = [] ∨ ∃ g, lp = some ⟨g, 0, none⟩ ∧ B ≤ g ∧ g < X.heap.size ∧ ∀ (i x : Nat), us[i]? = some x → X.cell? ⟨g, i, none⟩ = some (.int .u64 (x : Int))
theorem stu_form {W X : World} {us : List Nat} {v : Value} (h : StU W us v X) : ∃ lp lc, v = .slice lp us.length lc ∧ KU W.heap.size lp us X := by
  have hl := fun k hk => row_lt h.row k hk
  have hc := fun g (hg : v.ownBlock = some g) => h.row.cells (g := g) hg
  rcases h.row.2 with ⟨hv, h0⟩ | ⟨g, cap, cur, hv, _⟩
  · exact ⟨none, 0, by rw [hv, h0], .inl (List.eq_nil_of_length_eq_zero h0)⟩
  · refine ⟨_, cap, hv, .inr ⟨g, rfl, h.new g (by rw [hv]; rfl), hl g (by rw [hv]; rfl), fun i x hx => ?_⟩⟩
    have := hc g (by rw [hv]; rfl) i (.int .u64 (x : Int)) (by unfold uRow; rw [List.getElem?_map, hx]; rfl)
    rw [Addr.add_mid] at this
    simpa using this
theorem KU.chg {B P : Nat} {lp : Option Addr} {us : List Nat} {X Y : World} (h : KU B lp us X) (hP : P < B) (hc : Chg (fun b => b = P) X Y) : KU B lp us Y := by
  rcases h with h | ⟨g, h1, h2, h3, h4⟩
  · exact .inl h
  · refine .inr ⟨g, h1, h2, Nat.lt_of_lt_of_le h3 hc.size, fun i x hx => ?_⟩
    rw [World.cell?_of_block (w := X) (hc.block g h3 (by omega))]
    exact h4 i x hx
theorem KU.row {B R : Nat} {lp : Option Addr} {us : List Nat} {X : World} (h : KU B lp us X) (hR : R < B) (cs : Array Value) : KU B lp us (X.setRow R cs) := by
  rcases h with h | ⟨g, h1, h2, h3, h4⟩
  · exact .inl h
  · refine .inr ⟨g, h1, h2, by simpa using h3, fun i x hx => ?_⟩
    rw [World.cell?_of_block (w := X) (setRow_other X R g cs (by omega))]
    exact h4 i x hx
theorem KU.krd {B : Nat} {lp : Option Addr} {us : List Nat} {X : World} (h : KU B lp us X) : KRd X lp us := by
  rcases h with h | ⟨g, h1, h2, h3, h4⟩
  · exact .inl h
  · exact .inr ⟨g, 0, h1, h3, fun i x hx => by simpa using h4 i x hx⟩
theorem KU.mono {B C : Nat} {lp : Option Addr} {us : List Nat} {X : World} (h : KU B lp us X) (hC : C ≤ B) : KU C lp us X := by
  rcases h with h | ⟨g, h1, h2, h3, h4⟩
  · exact .inl h
  · exact .inr ⟨g, h1, Nat.le_trans hC h2, h3, h4⟩
def PaQ (W : World) (t : List UInt8) (e : Ending) (W' : World) : Prop := ∃ ok o kp kc, e = .returned (.tuple #[.agg (opV o kp kc), .bool ok]) ∧ PQ t ok o ∧ KU W.heap.size kp o.keys W' ∧ (ok = false → o = zeroO) ∧ Below W.heap.size W W'
theorem KU.lst {B P : Nat} {lp : Option Addr} {us : List Nat} {X : World} (h : KU B lp us X) (hP : P < B) : us = [] ∨ ∃ g, lp = some ⟨g, 0, none⟩ ∧ g ≠ P ∧ ∀ (i x : Nat), us[i]? = some x → X.cell? ⟨g, i, none⟩ = some (.int .u64 (x : Int)) := by
  rcases h with h | ⟨g, h1, h2, h3, h4⟩
  · exact .inl h
  · exact .inr ⟨g, h1, by omega, h4⟩
end Go.Proofs.YtmmaniolaljjlaaGreatDoor
