/- What a reading of an operation finds: what is pure. -/
import Derived.Test.YtmmaniolaljjlaaGreatDoorP13Scp
import Derived.Test.YtmmaniolaljjlaaGreatDoorP5Scu
namespace Go.Proofs.YtmmaniolaljjlaaGreatDoor
open Go.RowKit Go.Shelf
set_option linter.unusedVariables false

def HPart (k hnd : Nat) (set : Bool) (rt ri : Int) (pre : List (List UInt8)) : Prop := (hndK k = true ∧ ∃ f1, pre = [f1] ∧ HdQ f1 true hnd set rt ri) ∨ (hndK k = false ∧ pre = [] ∧ hnd = 0 ∧ set = false ∧ rt = 0 ∧ ri = 0)
theorem core {t : List UInt8} {k hnd : Nat} {set : Bool} {rt ri : Int} {pre r1 : List (List UInt8)} (hk : hasK k = true) (hp : HPart k hnd set rt ri pre) (hs : Lib.split t [32] = opW k :: (pre ++ r1)) {o : Opx} (ho : rightO o) (ht : t = textO o) :
    o.k = k ∧ o.hnd = hnd ∧ o.set = set ∧ o.rt = rt ∧ o.ri = ri ∧ r1 = (nuO o).map Lib.decDigits := by
  have R := right_parts ho
  have e := (text_iff t o).1 ht
  rw [hs, R.parts] at e
  simp only [List.cons.injEq] at e
  have hkk : o.k = k := (opW_inj k o.k hk R.has e.1).symm
  have e2 := e.2
  rw [hkk] at e2
  rcases hp with ⟨h1, f1, rfl, hd⟩ | ⟨h1, rfl, rfl, rfl, rfl, rfl⟩
  · rw [h1] at e2
    simp at e2
    obtain ⟨_, q1, q2, q3, q4⟩ := hd.2 o.hnd o.set o.rt o.ri ho.1.hnd ho.1.rt ho.1.ri (R.hd (by rw [hkk]; exact h1)) e2.1
    exact ⟨hkk, q1.symm, q2.symm, q3.symm, q4.symm, e2.2⟩
  · rw [h1] at e2
    obtain ⟨q1, q2, q3, q4⟩ := R.nohd (by rw [hkk]; exact h1)
    exact ⟨hkk, q1, q2, q3, q4, by simpa using e2⟩
theorem no_kind {t f0 : List UInt8} {r0 : List (List UInt8)} (h : ∀ k, hasK k = true → f0 ≠ opW k) (hs : Lib.split t [32] = f0 :: r0) : ∀ o, rightO o → t ≠ textO o := by
  intro o ho ht
  have R := right_parts ho
  have e := (text_iff t o).1 ht
  rw [hs, R.parts] at e
  simp only [List.cons.injEq] at e
  exact h o.k R.has e.1
theorem no_hd {t : List UInt8} {k : Nat} (hk : hasK k = true) (hh : hndK k = true) (hs : Lib.split t [32] = [opW k]) : ∀ o, rightO o → t ≠ textO o := by
  intro o ho ht
  have R := right_parts ho
  have e := (text_iff t o).1 ht
  rw [hs, R.parts] at e
  simp only [List.cons.injEq] at e
  have hkk : o.k = k := (opW_inj k o.k hk R.has e.1).symm
  have e2 := e.2
  rw [hkk, hh] at e2
  simp at e2
theorem no_hd2 {t f1 : List UInt8} {k hnd : Nat} {set : Bool} {rt ri : Int} {r1 : List (List UInt8)} (hk : hasK k = true) (hh : hndK k = true) (hs : Lib.split t [32] = opW k :: f1 :: r1) (hd : HdQ f1 false hnd set rt ri) : ∀ o, rightO o → t ≠ textO o := by
  intro o ho ht
  have R := right_parts ho
  have e := (text_iff t o).1 ht
  rw [hs, R.parts] at e
  simp only [List.cons.injEq] at e
  have hkk : o.k = k := (opW_inj k o.k hk R.has e.1).symm
  have e2 := e.2
  rw [hkk, hh] at e2
  simp at e2
  have := (hd.2 o.hnd o.set o.rt o.ri ho.1.hnd ho.1.rt ho.1.ri (R.hd (by rw [hkk]; exact hh)) e2.1).1
  simp at this
theorem no_nums {t : List UInt8} {k hnd : Nat} {set : Bool} {rt ri : Int} {pre r1 : List (List UInt8)} (hk : hasK k = true) (hp : HPart k hnd set rt ri pre) (hs : Lib.split t [32] = opW k :: (pre ++ r1)) (hm : r1.mapM natP = none) : ∀ o, rightO o → t ≠ textO o := by
  intro o ho ht
  obtain ⟨_, _, _, _, _, e⟩ := core hk hp hs ho ht
  rw [e, natsM_dec _ (nu_u ho.1)] at hm
  simp at hm
theorem nu_of {t : List UInt8} {k hnd : Nat} {set : Bool} {rt ri : Int} {pre r1 : List (List UInt8)} {us : List Nat} (hk : hasK k = true) (hp : HPart k hnd set rt ri pre) (hs : Lib.split t [32] = opW k :: (pre ++ r1)) (hm : r1.mapM natP = some us) {o : Opx} (ho : rightO o) (ht : t = textO o) : us = nuO o ∧ o.k = k := by
  obtain ⟨hkk, _, _, _, _, e⟩ := core hk hp hs ho ht
  rw [e, natsM_dec _ (nu_u ho.1)] at hm
  simp only [Option.some.injEq] at hm
  exact ⟨hm.symm, hkk⟩
theorem numK_7 {k : Nat} (h : kysK k = true) : numK k = [] := by
  unfold kysK at h
  simp at h
  subst h
  rfl
theorem no_keys {t : List UInt8} {k hnd : Nat} {set : Bool} {rt ri : Int} {pre r1 : List (List UInt8)} {us : List Nat} (hk : hasK k = true) (hp : HPart k hnd set rt ri pre) (hs : Lib.split t [32] = opW k :: (pre ++ r1)) (hm : r1.mapM natP = some us) (h7 : kysK k = true) (hl : ¬ us.length ≤ 1024) : ∀ o, rightO o → t ≠ textO o := by
  intro o ho ht
  obtain ⟨e, hkk⟩ := nu_of hk hp hs hm ho ht
  have R := right_parts ho
  have := R.kys (by rw [hkk]; exact h7)
  rw [e] at hl
  unfold nuO at hl
  rw [hkk, numK_7 h7] at hl
  simp at hl
  omega
theorem no_len {t : List UInt8} {k hnd : Nat} {set : Bool} {rt ri : Int} {pre r1 : List (List UInt8)} {us : List Nat} (hk : hasK k = true) (hp : HPart k hnd set rt ri pre) (hs : Lib.split t [32] = opW k :: (pre ++ r1)) (hm : r1.mapM natP = some us) (h7 : kysK k = false) (hl : us.length ≠ (numK k).length) : ∀ o, rightO o → t ≠ textO o := by
  intro o ho ht
  obtain ⟨e, hkk⟩ := nu_of hk hp hs hm ho ht
  have R := right_parts ho
  have := R.nokys (by rw [hkk]; exact h7)
  apply hl
  rw [e]
  unfold nuO
  rw [this, hkk]
  simp
theorem hp_facts {k hnd : Nat} {set : Bool} {rt ri : Int} {pre : List (List UInt8)} (hp : HPart k hnd set rt ri pre) : isU hnd ∧ isI rt ∧ isI ri ∧ (hndK k = true → rhB hnd set rt ri = true) ∧ (hndK k = false → hnd = 0 ∧ set = false ∧ rt = 0 ∧ ri = 0) ∧ pre = (if hndK k = true then [hText hnd set rt ri] else []) := by
  rcases hp with ⟨h1, f1, rfl, hd⟩ | ⟨h1, rfl, rfl, rfl, rfl, rfl⟩
  · obtain ⟨a, b, c, d, e⟩ := hd.1 rfl
    exact ⟨a, b, c, fun _ => d, fun h => by rw [h1] at h; simp at h, by rw [h1, e]; simp⟩
  · exact ⟨by unfold isU; omega, ⟨by omega, by omega⟩, ⟨by omega, by omega⟩, fun h => by rw [h1] at h; simp at h, fun _ => ⟨rfl, rfl, rfl, rfl⟩, by rw [h1]; simp⟩
theorem has_lt {k : Nat} (h : hasK k = true) : k < 256 := by unfold hasK at h; simp at h; omega
theorem yes_keys {t : List UInt8} {k hnd : Nat} {set : Bool} {rt ri : Int} {pre r1 : List (List UInt8)} {us : List Nat} (hk : hasK k = true) (hp : HPart k hnd set rt ri pre) (hs : Lib.split t [32] = opW k :: (pre ++ r1)) (hm : r1.mapM natP = some us) (h7 : kysK k = true) (hl : us.length ≤ 1024) : PQ t true ⟨k, 0, 0, 0, hnd, set, rt, ri, us, 0, 0⟩ := by
  obtain ⟨a1, a2, a3, a4, a5, a6⟩ := hp_facts hp
  obtain ⟨hdec, huu⟩ := natsM_some hm
  have u0 : isU 0 := by unfold isU; omega
  have hr : rightO ⟨k, 0, 0, 0, hnd, set, rt, ri, us, 0, 0⟩ := mk_right ⟨has_lt hk, u0, u0, u0, a1, a2, a3, huu, u0, u0⟩ hk a4 a5 (fun _ => hl) (fun h => by simp only at h; rw [h7] at h; simp at h) (fun _ => rfl) (fun _ => rfl) (fun _ => rfl) (fun _ => rfl) (fun _ => rfl)
  refine ⟨fun _ => ⟨hr, ?_⟩, fun o ho ht => ⟨rfl, ?_⟩⟩
  · rw [text_iff, hs, (right_parts hr).parts]
    unfold nuO
    simp only
    rw [numK_7 h7, a6, hdec]
    simp
  · obtain ⟨c1, c2, c3, c4, c5, c6⟩ := core hk hp hs ho ht
    obtain ⟨e, _⟩ := nu_of hk hp hs hm ho ht
    have R := right_parts ho
    obtain ⟨ok', key', val', old', hnd', set', rt', ri', keys', lo', hi'⟩ := o
    simp only at c1 c2 c3 c4 c5
    subst c1 c2 c3 c4 c5
    have n7 := numK_7 h7
    have q1 := R.z1
    have q2 := R.z2
    have q3 := R.z3
    have q9 := R.z9
    have q10 := R.z10
    simp only [n7] at q1 q2 q3 q9 q10
    unfold nuO at e
    simp only [n7] at e
    simp at e q1 q2 q3 q9 q10
    subst e q1 q2 q3 q9 q10
    rfl
theorem yes_nums {t : List UInt8} {k hnd : Nat} {set : Bool} {rt ri : Int} {pre r1 : List (List UInt8)} {us : List Nat} (hk : hasK k = true) (hp : HPart k hnd set rt ri pre) (hs : Lib.split t [32] = opW k :: (pre ++ r1)) (hm : r1.mapM natP = some us) (h7 : kysK k = false) (hl : us.length = (numK k).length) : PQ t true ⟨k, fk k us 1, fk k us 2, fk k us 3, hnd, set, rt, ri, [], fk k us 9, fk k us 10⟩ := by
  obtain ⟨a1, a2, a3, a4, a5, a6⟩ := hp_facts hp
  obtain ⟨hdec, huu⟩ := natsM_some hm
  have hr : rightO ⟨k, fk k us 1, fk k us 2, fk k us 3, hnd, set, rt, ri, [], fk k us 9, fk k us 10⟩ := mk_right ⟨has_lt hk, fk_u huu 1, fk_u huu 2, fk_u huu 3, a1, a2, a3, fun u hu => by simp at hu, fk_u huu 9, fk_u huu 10⟩ hk a4 a5 (fun h => by simp only at h; rw [h7] at h; simp at h) (fun _ => rfl) (fun h => fk_none us h) (fun h => fk_none us h) (fun h => fk_none us h) (fun h => fk_none us h) (fun h => fk_none us h)
  refine ⟨fun _ => ⟨hr, ?_⟩, fun o ho ht => ⟨rfl, ?_⟩⟩
  · rw [text_iff, hs, (right_parts hr).parts]
    unfold nuO
    simp only
    rw [fk_nums k us hl, a6, hdec]
    simp
  · obtain ⟨c1, c2, c3, c4, c5, c6⟩ := core hk hp hs ho ht
    obtain ⟨e, _⟩ := nu_of hk hp hs hm ho ht
    have R := right_parts ho
    obtain ⟨ok', key', val', old', hnd', set', rt', ri', keys', lo', hi'⟩ := o
    simp only at c1 c2 c3 c4 c5
    subst c1 c2 c3 c4 c5
    have hke := R.nokys h7
    simp only at hke
    subst hke
    unfold nuO at e
    simp only [List.append_nil] at e
    subst e
    obtain ⟨q1, q2, q3, q9, q10⟩ := fk_of ok' key' val' old' lo' hi' R.z1 R.z2 R.z3 R.z9 R.z10
    rw [q1, q2, q3, q9, q10]
/-- a row of numbers that was built, above B -/
def KU (B : Nat) (lp : Option Addr) (us : List Nat) (X : World) : Prop := us = [] ∨ ∃ g, lp = some ⟨g, 0, none⟩ ∧ B ≤ g ∧ g < X.heap.size ∧ ∀ (i x : Nat), us[i]? = some x → X.cell? ⟨g, i, none⟩ = some (.int .u64 (x : Int))
theorem stu_form {W X : World} {us : List Nat} {v : Value} (h : StU W us v X) : ∃ lp lc, v = .slice lp us.length lc ∧ KU W.heap.size lp us X := by
  have hl := fun k hk => row_lt h.row k hk
  have hc := fun g (hg : v.ownBlock = some g) => h.row.cells (g := g) hg
  rcases h.row.2 with ⟨hv, h0⟩ | ⟨g, cap, cur, hv, _⟩
  · exact ⟨none, 0, by rw [hv, h0], .inl (List.eq_nil_of_length_eq_zero h0)⟩
  · refine ⟨_, cap, hv, .inr ⟨g, rfl, h.new g (by rw [hv]; rfl), hl g (by rw [hv]; rfl), fun i x hx => ?_⟩⟩
    have := hc g (by rw [hv]; rfl) i (.int .u64 (x : Int)) (by unfold uRow; rw [List.getElem?_map, hx]; rfl)
    rw [Addr.add_mid] at this
    simpa using this
theorem KU.chg {B P : Nat} {lp : Option Addr} {us : List Nat} {X Y : World} (h : KU B lp us X) (hP : P < B) (hc : Chg (fun b => b = P) X Y) : KU B lp us Y := by
  rcases h with h | ⟨g, h1, h2, h3, h4⟩
  · exact .inl h
  · refine .inr ⟨g, h1, h2, Nat.lt_of_lt_of_le h3 hc.size, fun i x hx => ?_⟩
    rw [World.cell?_of_block (w := X) (hc.block g h3 (by omega))]
    exact h4 i x hx
theorem KU.row {B R : Nat} {lp : Option Addr} {us : List Nat} {X : World} (h : KU B lp us X) (hR : R < B) (cs : Array Value) : KU B lp us (X.setRow R cs) := by
  rcases h with h | ⟨g, h1, h2, h3, h4⟩
  · exact .inl h
  · refine .inr ⟨g, h1, h2, by simpa using h3, fun i x hx => ?_⟩
    rw [World.cell?_of_block (w := X) (setRow_other X R g cs (by omega))]
    exact h4 i x hx
theorem KU.krd {B : Nat} {lp : Option Addr} {us : List Nat} {X : World} (h : KU B lp us X) : KRd X lp us := by
  rcases h with h | ⟨g, h1, h2, h3, h4⟩
  · exact .inl h
  · exact .inr ⟨g, 0, h1, h3, fun i x hx => by simpa using h4 i x hx⟩
theorem KU.mono {B C : Nat} {lp : Option Addr} {us : List Nat} {X : World} (h : KU B lp us X) (hC : C ≤ B) : KU C lp us X := by
  rcases h with h | ⟨g, h1, h2, h3, h4⟩
  · exact .inl h
  · exact .inr ⟨g, h1, Nat.le_trans hC h2, h3, h4⟩
def PaQ (W : World) (t : List UInt8) (e : Ending) (W' : World) : Prop := ∃ ok o kp kc, e = .returned (.tuple #[.agg (opV o kp kc), .bool ok]) ∧ PQ t ok o ∧ KU W.heap.size kp o.keys W' ∧ (ok = false → o = zeroO) ∧ Below W.heap.size W W'
theorem KU.lst {B P : Nat} {lp : Option Addr} {us : List Nat} {X : World} (h : KU B lp us X) (hP : P < B) : us = [] ∨ ∃ g, lp = some ⟨g, 0, none⟩ ∧ g ≠ P ∧ ∀ (i x : Nat), us[i]? = some x → X.cell? ⟨g, i, none⟩ = some (.int .u64 (x : Int)) := by
  rcases h with h | ⟨g, h1, h2, h3, h4⟩
  · exact .inl h
  · exact .inr ⟨g, h1, by omega, h4⟩
end Go.Proofs.YtmmaniolaljjlaaGreatDoor
/- The text of a script, line by line: what is pure. -/
namespace Go.Proofs.YtmmaniolaljjlaaGreatDoor
open Go.RowKit Go.Shelf
set_option linter.unusedVariables false

/-- what has been read: no config yet, or a script -/
structure Rdg where
  ce : Int
  sl : Int
  stp : Nat
  mu : Int
  ts : List (List Opx)
  ps : List Int
inductive Goes1 : Option Rdg → List UInt8 → Rdg → Prop
  | cfg (ce sl : Int) (stp : Nat) (mu : Int) : isI ce → isI sl → isU stp → isI mu → cfgE ce sl stp mu = 0 → Goes1 none (cfT ce sl stp mu) ⟨ce, sl, stp, mu, [], []⟩
  | thr (ce sl : Int) (stp : Nat) (mu : Int) (ts : List (List Opx)) : Goes1 (some ⟨ce, sl, stp, mu, ts, []⟩) thW ⟨ce, sl, stp, mu, ts ++ [[]], []⟩
  | op (ce sl : Int) (stp : Nat) (mu : Int) (ts : List (List Opx)) (l : List Opx) (o : Opx) : rightO o → Goes1 (some ⟨ce, sl, stp, mu, ts ++ [l], []⟩) (textO o) ⟨ce, sl, stp, mu, ts ++ [l ++ [o]], []⟩
  | pk (ce sl : Int) (stp : Nat) (mu : Int) (ts : List (List Opx)) (ps l : List Int) : ps.length % 20 = 0 → 1 ≤ l.length → l.length ≤ 20 → (∀ z ∈ l, isI z) → Goes1 (some ⟨ce, sl, stp, mu, ts, ps⟩) (pkT l) ⟨ce, sl, stp, mu, ts, ps ++ l⟩
theorem cfT_split (ce sl : Int) (stp : Nat) (mu : Int) : Lib.split (cfT ce sl stp mu) [32] = cfL ce sl stp mu := by
  refine split_join _ (by simp [cfL]) (fun f hf => ?_)
  simp [cfL] at hf
  rcases hf with rfl | rfl | rfl | rfl | rfl
  · unfold noB; decide
  · exact itoa_no _ 32 (by decide)
  · exact itoa_no _ 32 (by decide)
  · exact (dec_no _).1
  · exact itoa_no _ 32 (by decide)
theorem pkT_split (l : List Int) : Lib.split (pkT l) [32] = pkL l := by
  refine split_join _ (by simp [pkL]) (fun f hf => ?_)
  rcases List.mem_cons.1 hf with rfl | hf
  · unfold noB; decide
  · obtain ⟨x, _, rfl⟩ := List.mem_map.1 hf
    exact itoa_no _ 32 (by decide)
theorem thW_split : Lib.split thW [32] = [thW] := by
  have := split_join [thW] (by simp) (fun f hf => by simp at hf; subst hf; unfold noB; decide)
  simpa [Lib.join] using this
theorem textO_split (o : Opx) : Lib.split (textO o) [32] = partO o := (text_iff _ o).1 rfl
theorem itoa_inj {a b : Int} (ha : isI a) (hb : isI b) (e : Lib.itoa a = Lib.itoa b) : a = b := by
  have h1 := atoi_itoa a ha.1 ha.2
  rw [e, atoi_itoa b hb.1 hb.2] at h1
  injection h1 with h1
  exact h1.symm
theorem dec_inj {a b : Nat} (ha : isU a) (hb : isU b) (e : Lib.decDigits a = Lib.decDigits b) : a = b := by
  have h1 := natP_dec a ha
  rw [e, natP_dec b hb] at h1
  injection h1 with h1
  exact h1.symm
theorem itoas_inj : ∀ (l l' : List Int), (∀ z ∈ l, isI z) → (∀ z ∈ l', isI z) → l.map Lib.itoa = l'.map Lib.itoa → l = l'
  | [], [], _, _, _ => rfl
  | [], b :: l', _, _, e => by simp at e
  | a :: l, [], _, _, e => by simp at e
  | a :: l, b :: l', h, h', e => by
    simp only [List.map_cons, List.cons.injEq] at e
    rw [itoa_inj (h a (by simp)) (h' b (by simp)) e.1, itoas_inj l l' (fun z hz => h z (by simp [hz])) (fun z hz => h' z (by simp [hz])) e.2]
theorem opW_not (k : Nat) : opW k ≠ cfW ∧ opW k ≠ thW ∧ opW k ≠ pkW := by
  unfold opW
  by_cases hk : k < 11
  · have : k = 0 ∨ k = 1 ∨ k = 2 ∨ k = 3 ∨ k = 4 ∨ k = 5 ∨ k = 6 ∨ k = 7 ∨ k = 8 ∨ k = 9 ∨ k = 10 := by omega
    rcases this with rfl | rfl | rfl | rfl | rfl | rfl | rfl | rfl | rfl | rfl | rfl <;> decide
  · rw [List.getD, List.getElem?_eq_none (by show 11 ≤ k; omega)]
    decide
theorem part_head (o : Opx) : ∃ r, partO o = opW o.k :: r := by
  unfold partO partsO
  exact ⟨_, rfl⟩
theorem decs_inj : ∀ (l l' : List Nat), (∀ z ∈ l, isU z) → (∀ z ∈ l', isU z) → l.map Lib.decDigits = l'.map Lib.decDigits → l = l'
  | [], [], _, _, _ => rfl
  | [], b :: l', _, _, e => by simp at e
  | a :: l, [], _, _, e => by simp at e
  | a :: l, b :: l', h, h', e => by
    simp only [List.map_cons, List.cons.injEq] at e
    rw [dec_inj (h a (by simp)) (h' b (by simp)) e.1, decs_inj l l' (fun z hz => h z (by simp [hz])) (fun z hz => h' z (by simp [hz])) e.2]
theorem hText_inj {h : Nat} {s : Bool} {a b : Int} {h' : Nat} {s' : Bool} {a' b' : Int} (u : isU h) (ia : isI a) (ib : isI b) (r : rhB h s a b = true) (u' : isU h') (ia' : isI a') (ib' : isI b') (r' : rhB h' s' a' b' = true) (e : hText h s a b = hText h' s' a' b') : h = h' ∧ s = s' ∧ a = a' ∧ b = b' := by
  cases s with
  | false =>
    simp [rhB] at r
    have q := rf_nat (f := hText h false a b) (u := h) (fun hh => by have := hText_head.1 hh; simp at this) u (fun z hz => by
      have : natP (Lib.decDigits h) = some z := hz
      rw [natP_dec h u] at this
      injection this)
    obtain ⟨e1, e2, e3, e4⟩ := q.2.2.2 h' s' a' b' u' ia' ib' r' e
    exact ⟨e1, e2, by rw [r.1]; exact e3, by rw [r.2]; exact e4⟩
  | true =>
    have h0 : h = 0 := by simp [rhB] at r; exact r.1
    have e0 : hText h true a b = 64 :: (Lib.itoa a ++ 46 :: Lib.itoa b) := by simp [hText]
    have q := rf_ref (r := Lib.itoa a ++ 46 :: Lib.itoa b) (l := Lib.itoa a) (q := Lib.itoa b) (x := a) (y := b) (.inl ⟨rfl, itoa_dot a⟩) ia ib (fun z hz => by rw [atoi_itoa a ia.1 ia.2] at hz; injection hz) (fun z hz => by rw [atoi_itoa b ib.1 ib.2] at hz; injection hz)
    obtain ⟨e1, e2, e3, e4⟩ := q.2.2.2 h' s' a' b' u' ia' ib' r' (by rw [← e0]; exact e)
    exact ⟨h0.trans e1, e2, e3, e4⟩
theorem textO_inj {o o' : Opx} (h : rightO o) (h' : rightO o') (e : textO o = textO o') : o = o' := by
  have a := right_parts h
  have b := right_parts h'
  have e2 : partO o = partO o' := by rw [← textO_split o, e, textO_split]
  rw [a.parts, b.parts] at e2
  simp only [List.cons.injEq] at e2
  have hk : o.k = o'.k := by
    first | exact opW_inj o.k o'.k a.has b.has e2.1 | exact (opW_inj o.k o'.k a.has b.has e2.1).symm
  have er := e2.2
  rw [← hk] at er
  have key : (o.hnd = o'.hnd ∧ o.set = o'.set ∧ o.rt = o'.rt ∧ o.ri = o'.ri) ∧ nuO o = nuO o' := by
    cases hh : hndK o.k with
    | true =>
      rw [if_pos hh, if_pos hh] at er
      simp only [List.singleton_append, List.cons.injEq] at er
      exact ⟨hText_inj h.1.hnd h.1.rt h.1.ri (a.hd hh) h'.1.hnd h'.1.rt h'.1.ri (b.hd (by rw [← hk]; exact hh)) er.1, decs_inj _ _ (nu_u h.1) (nu_u h'.1) er.2⟩
    | false =>
      rw [if_neg (by rw [hh]; simp), if_neg (by rw [hh]; simp)] at er
      obtain ⟨x1, x2, x3, x4⟩ := a.nohd hh
      obtain ⟨y1, y2, y3, y4⟩ := b.nohd (by rw [← hk]; exact hh)
      exact ⟨⟨by rw [x1, y1], by rw [x2, y2], by rw [x3, y3], by rw [x4, y4]⟩, decs_inj _ _ (nu_u h.1) (nu_u h'.1) (by simpa using er)⟩
  obtain ⟨⟨k1, k2, k3, k4⟩, kn⟩ := key
  have fa := fk_of o.k o.key o.val o.old o.lo o.hi a.z1 a.z2 a.z3 a.z9 a.z10
  have fb := fk_of o'.k o'.key o'.val o'.old o'.lo o'.hi b.z1 b.z2 b.z3 b.z9 b.z10
  have kk : o.keys = o'.keys ∧ (numK o.k).map (numAt o.key o.val o.old o.lo o.hi) = (numK o'.k).map (numAt o'.key o'.val o'.old o'.lo o'.hi) := by
    unfold nuO at kn
    cases hy : kysK o.k with
    | true =>
      have n7 := numK_7 hy
      rw [← hk, n7] at kn ⊢
      simpa using kn
    | false =>
      rw [a.nokys hy, b.nokys (by rw [← hk]; exact hy)] at kn ⊢
      simpa using kn
  rw [kk.2] at fa
  rw [hk] at fa
  obtain ⟨f1, f2, f3, f9, f10⟩ := fa
  obtain ⟨g1, g2, g3, g9, g10⟩ := fb
  obtain ⟨ok, key, val, old, hnd, set, rt, ri, keys, lo, hi⟩ := o
  obtain ⟨ok', key', val', old', hnd', set', rt', ri', keys', lo', hi'⟩ := o'
  simp only at *
  subst hk k1 k2 k3 k4
  obtain ⟨rfl, _⟩ := kk
  rw [show key = key' from f1.symm.trans g1, show val = val' from f2.symm.trans g2, show old = old' from f3.symm.trans g3, show lo = lo' from f9.symm.trans g9, show hi = hi' from f10.symm.trans g10]
/-- a line leads to one script alone -/
theorem goes_one {st : Option Rdg} {line : List UInt8} {a b : Rdg} (h : Goes1 st line a) (h' : Goes1 st line b) : a = b := by
  cases h with
  | cfg ce sl stp mu i1 i2 i3 i4 hc =>
    generalize hl : cfT ce sl stp mu = line at h'
    cases h' with
    | cfg ce' sl' stp' mu' j1 j2 j3 j4 hc' =>
      have e := congrArg (fun t => Lib.split t [32]) hl
      simp only [cfT_split] at e
      simp only [cfL, List.cons.injEq, and_true, true_and] at e
      rw [itoa_inj i1 j1 e.1, itoa_inj i2 j2 e.2.1, dec_inj i3 j3 e.2.2.1, itoa_inj i4 j4 e.2.2.2]
  | thr ce sl stp mu ts =>
    generalize hl : thW = line at h'
    generalize hs : some (Rdg.mk ce sl stp mu ts []) = st at h'
    cases h' with
    | cfg => cases hs
    | thr => injection hs with hs; injection hs; subst_vars; rfl
    | op ce' sl' stp' mu' ts' l o ho =>
      have e := congrArg (fun t => Lib.split t [32]) hl
      simp only [thW_split, textO_split] at e
      obtain ⟨r, hr⟩ := part_head o
      rw [hr] at e
      simp only [List.cons.injEq] at e
      exact absurd e.1.symm (opW_not o.k).2.1
    | pk ce' sl' stp' mu' ts' ps l =>
      have e := congrArg (fun t => Lib.split t [32]) hl
      simp only [thW_split, pkT_split, pkL, List.cons.injEq] at e
      exact absurd e.1 (by decide)
  | op ce sl stp mu ts l o ho =>
    generalize hl : textO o = line at h'
    generalize hs : some (Rdg.mk ce sl stp mu (ts ++ [l]) []) = st at h'
    obtain ⟨r, hr⟩ := part_head o
    cases h' with
    | cfg => cases hs
    | thr =>
      have e := congrArg (fun t => Lib.split t [32]) hl
      simp only [thW_split, textO_split] at e
      rw [hr] at e
      simp only [List.cons.injEq] at e
      exact absurd e.1 (opW_not o.k).2.1
    | op ce' sl' stp' mu' ts' l' o' ho' =>
      have e := textO_inj ho ho' hl
      injection hs with hs
      injection hs with s1 s2 s3 s4 s5 s6
      have h5 := List.append_inj' s5 rfl
      obtain ⟨rfl, h6⟩ := h5
      simp only [List.cons.injEq, and_true] at h6
      subst s1 s2 s3 s4 e h6
      rfl
    | pk ce' sl' stp' mu' ts' ps l' =>
      have e := congrArg (fun t => Lib.split t [32]) hl
      simp only [textO_split, pkT_split, pkL] at e
      rw [hr] at e
      simp only [List.cons.injEq] at e
      exact absurd e.1 (opW_not o.k).2.2
  | pk ce sl stp mu ts ps l h1 h2 h3 h4 =>
    generalize hl : pkT l = line at h'
    generalize hs : some (Rdg.mk ce sl stp mu ts ps) = st at h'
    cases h' with
    | cfg => cases hs
    | thr =>
      have e := congrArg (fun t => Lib.split t [32]) hl
      simp only [thW_split, pkT_split, pkL, List.cons.injEq] at e
      exact absurd e.1 (by decide)
    | op ce' sl' stp' mu' ts' l' o ho =>
      obtain ⟨r, hr⟩ := part_head o
      have e := congrArg (fun t => Lib.split t [32]) hl
      simp only [textO_split, pkT_split, pkL] at e
      rw [hr] at e
      simp only [List.cons.injEq] at e
      exact absurd e.1.symm (opW_not o.k).2.2
    | pk ce' sl' stp' mu' ts' ps' l' g1 g2 g3 g4 =>
      have e := congrArg (fun t => Lib.split t [32]) hl
      simp only [pkT_split, pkL, List.cons.injEq, true_and] at e
      have e2 := itoas_inj l l' h4 g4 e
      injection hs with hs
      injection hs with s1 s2 s3 s4 s5 s6
      subst s1 s2 s3 s4 s5 s6 e2
      rfl
end Go.Proofs.YtmmaniolaljjlaaGreatDoor
/- How the reading of a script's text ends: what is pure. -/
namespace Go.Proofs.YtmmaniolaljjlaaGreatDoor
open Go.RowKit Go.Shelf
set_option linter.unusedVariables false

/-- lines that go on one behind the other -/
inductive RdAll : Option Rdg → List (List UInt8) → Option Rdg → Prop
  | nil (s : Option Rdg) : RdAll s [] s
  | cons (s : Option Rdg) (line : List UInt8) (x : Rdg) (ls : List (List UInt8)) (z : Option Rdg) : Goes1 s line x → RdAll (some x) ls z → RdAll s (line :: ls) z
theorem RdAll.one {s : Option Rdg} {ls : List (List UInt8)} {a b : Option Rdg} (h : RdAll s ls a) (h' : RdAll s ls b) : a = b := by
  induction h with
  | nil s => cases h'; rfl
  | cons s line x ls z hg hr ih =>
    cases h' with
    | cons _ _ y _ _ hg' hr' =>
      have := goes_one hg hg'
      subst this
      exact ih hr'
theorem RdAll.snoc {s : Option Rdg} {ls : List (List UInt8)} {a : Option Rdg} {line : List UInt8} {x : Rdg} (h : RdAll s ls a) (hg : Goes1 a line x) : RdAll s (ls ++ [line]) (some x) := by
  induction h with
  | nil s => exact .cons _ _ _ _ _ hg (.nil _)
  | cons s l y ls z hg' hr ih => exact .cons _ _ _ _ _ hg' (ih hg)
theorem RdAll.pre {s : Option Rdg} {l1 l2 : List (List UInt8)} {z : Option Rdg} (h : RdAll s (l1 ++ l2) z) : ∃ y, RdAll s l1 y ∧ RdAll y l2 z := by
  induction l1 generalizing s with
  | nil => exact ⟨s, .nil _, h⟩
  | cons a l1 ih =>
    cases h with
    | cons _ _ x _ _ hg hr =>
      obtain ⟨y, h1, h2⟩ := ih hr
      exact ⟨y, .cons _ _ _ _ _ hg h1, h2⟩
/-- all but the last part are lines; the last part has no end of line -/
def LnT (t : List UInt8) (ls : List (List UInt8)) (r : List UInt8) : Prop := t = joinL ls ++ r ∧ noB 10 r ∧ ∀ x ∈ ls, noB 10 x
theorem LnT.one {t : List UInt8} {ls ls' : List (List UInt8)} {r r' : List UInt8} (h : LnT t ls r) (h' : LnT t ls' r') : ls = ls' ∧ r = r' := by
  induction ls generalizing t ls' with
  | nil =>
    cases ls' with
    | nil => exact ⟨rfl, by have := h.1.symm.trans h'.1; simpa [joinL] using this⟩
    | cons a l =>
      exfalso
      have e := h.1.symm.trans h'.1
      rw [joinL_cons] at e
      simp only [joinL, List.map_nil, List.flatten_nil, List.nil_append] at e
      exact absurd rfl (h.2.1 10 (by rw [e]; simp))
  | cons a l ih =>
    cases ls' with
    | nil =>
      exfalso
      have e := h.1.symm.trans h'.1
      rw [joinL_cons] at e
      simp only [joinL, List.map_nil, List.flatten_nil, List.nil_append] at e
      exact absurd rfl (h'.2.1 10 (by rw [← e]; simp))
    | cons b l' =>
      have e := h.1.symm.trans h'.1
      rw [joinL_cons, joinL_cons] at e
      simp only [List.append_assoc, List.cons_append] at e
      obtain ⟨e1, e2⟩ := noB_cutG (h.2.2 a (by simp)) (h'.2.2 b (by simp)) e
      have := ih (t := joinL l ++ r) (ls' := l') ⟨rfl, h.2.1, fun x hx => h.2.2 x (by simp [hx])⟩ ⟨e2, h'.2.1, fun x hx => h'.2.2 x (by simp [hx])⟩
      exact ⟨by rw [e1, this.1], this.2⟩
/-- how the reading of a text ends: the script, or the line at which it is none -/
inductive PaR (t : List UInt8) : Option Rdg → Nat → Prop
  | ok (ls : List (List UInt8)) (x : Rdg) : LnT t ls [] → RdAll none ls (some x) → ¬ longT x.ts x.ps → PaR t (some x) 0
  | long (ls : List (List UInt8)) (x : Rdg) : LnT t ls [] → RdAll none ls (some x) → longT x.ts x.ps → PaR t none (ls.length + 1)
  | line (l1 : List (List UInt8)) (line : List UInt8) (l2 : List (List UInt8)) (r : List UInt8) (s : Option Rdg) : LnT t (l1 ++ line :: l2) r → RdAll none l1 s → (∀ x, ¬ Goes1 s line x) → PaR t none (l1.length + 1)
  | rest (ls : List (List UInt8)) (r : List UInt8) (s : Option Rdg) : LnT t ls r → (r ≠ [] ∨ ls = []) → RdAll none ls s → PaR t none (ls.length + 1)
theorem rd_stop {l1 l2 : List (List UInt8)} {line : List UInt8} {s : Option Rdg} {z : Option Rdg} (h : RdAll none l1 s) (hn : ∀ x, ¬ Goes1 s line x) (h' : RdAll none (l1 ++ line :: l2) z) : False := by
  obtain ⟨y, h1, h2⟩ := h'.pre
  have := h1.one h
  subst this
  cases h2 with
  | cons _ _ x _ _ hg _ => exact hn x hg
theorem rd_none {ls : List (List UInt8)} {x : Rdg} (h : RdAll none ls (some x)) : ls ≠ [] := by
  rintro rfl
  cases h
theorem PaR.one {t : List UInt8} {a b : Option Rdg} {n m : Nat} (h : PaR t a n) (h' : PaR t b m) : a = b ∧ n = m := by
  cases h with
  | ok ls x hl hr hg =>
    cases h' with
    | ok ls' x' hl' hr' hg' =>
      obtain ⟨rfl, _⟩ := hl.one hl'
      exact ⟨hr.one hr', rfl⟩
    | long ls' x' hl' hr' hg' =>
      obtain ⟨rfl, _⟩ := hl.one hl'
      have e := hr.one hr'
      injection e with e
      subst e
      exact absurd hg' hg
    | line l1 line l2 r s hl' hr' hn =>
      obtain ⟨rfl, _⟩ := hl.one hl'
      exact (rd_stop hr' hn hr).elim
    | rest ls' r s hl' hc hr' =>
      obtain ⟨rfl, e⟩ := hl.one hl'
      rcases hc with hc | rfl
      · exact absurd e.symm hc
      · exact absurd rfl (rd_none hr)
  | long ls x hl hr hg =>
    cases h' with
    | ok ls' x' hl' hr' hg' =>
      obtain ⟨rfl, _⟩ := hl.one hl'
      have e := hr.one hr'
      injection e with e
      subst e
      exact absurd hg hg'
    | long ls' x' hl' hr' hg' =>
      obtain ⟨rfl, _⟩ := hl.one hl'
      exact ⟨rfl, rfl⟩
    | line l1 line l2 r s hl' hr' hn =>
      obtain ⟨rfl, _⟩ := hl.one hl'
      exact (rd_stop hr' hn hr).elim
    | rest ls' r s hl' hc hr' =>
      obtain ⟨rfl, e⟩ := hl.one hl'
      exact ⟨rfl, rfl⟩
  | line l1 line l2 r s hl hr hn =>
    cases h' with
    | ok ls' x' hl' hr' hg' =>
      obtain ⟨rfl, _⟩ := hl'.one hl
      exact (rd_stop hr hn hr').elim
    | long ls' x' hl' hr' hg' =>
      obtain ⟨rfl, _⟩ := hl'.one hl
      exact (rd_stop hr hn hr').elim
    | line k1 line' k2 r' s' hl' hr' hn' =>
      obtain ⟨e, _⟩ := hl.one hl'
      refine ⟨rfl, ?_⟩
      rcases Nat.lt_trichotomy l1.length k1.length with h | h | h
      · obtain ⟨w, hw⟩ : ∃ w, k1 = l1 ++ line :: w := by
          have h1 := congrArg (List.take k1.length) e
          rw [List.take_append_of_le_length (Nat.le_refl _), List.take_length, List.take_append, List.take_of_length_le (by omega)] at h1
          obtain ⟨d, hd⟩ : ∃ d, k1.length - l1.length = d + 1 := ⟨k1.length - l1.length - 1, by omega⟩
          rw [hd, List.take_succ_cons] at h1
          exact ⟨_, h1.symm⟩
        rw [hw] at hr'
        exact (rd_stop hr hn hr').elim
      · omega
      · obtain ⟨w, hw⟩ : ∃ w, l1 = k1 ++ line' :: w := by
          have h1 := congrArg (List.take l1.length) e
          rw [List.take_append_of_le_length (Nat.le_refl _), List.take_length, List.take_append, List.take_of_length_le (by omega)] at h1
          obtain ⟨d, hd⟩ : ∃ d, l1.length - k1.length = d + 1 := ⟨l1.length - k1.length - 1, by omega⟩
          rw [hd, List.take_succ_cons] at h1
          exact ⟨_, h1⟩
        rw [hw] at hr
        exact (rd_stop hr' hn' hr).elim
    | rest ls' r' s' hl' hc hr' =>
      obtain ⟨rfl, _⟩ := hl'.one hl
      exact (rd_stop hr hn hr').elim
  | rest ls r s hl hc hr =>
    cases h' with
    | ok ls' x' hl' hr' hg' =>
      obtain ⟨rfl, e⟩ := hl.one hl'
      rcases hc with hc | rfl
      · exact absurd e hc
      · exact absurd rfl (rd_none hr')
    | long ls' x' hl' hr' hg' =>
      obtain ⟨rfl, e⟩ := hl.one hl'
      exact ⟨rfl, rfl⟩
    | line l1 line l2 r' s' hl' hr' hn =>
      obtain ⟨rfl, _⟩ := hl.one hl'
      exact (rd_stop hr' hn hr).elim
    | rest ls' r' s' hl' hc' hr' =>
      obtain ⟨rfl, _⟩ := hl.one hl'
      exact ⟨rfl, rfl⟩
end Go.Proofs.YtmmaniolaljjlaaGreatDoor
