/- The text of a script, line by line: what is pure. -/
import Derived.Test.YtmmaniolaljjlaaGreatDoorB12Scq
import Derived.Test.YtmmaniolaljjlaaGreatDoorB6Scf
namespace Go.Proofs.YtmmaniolaljjlaaGreatDoor
open Go.RowKit Go.Shelf
set_option linter.unusedVariables false

/-- what has been read: no config yet, or a script -/
structure Rdg where
  ce : Int
  sl : Int
  stp : Nat
  mu : Int
  ts : List (List Opx)
  ps : List Int
inductive Goes1 : Option Rdg → List UInt8 → Rdg → Prop
  | cfg (ce sl : Int) (stp : Nat) (mu : Int) : isI ce → isI sl → isU stp → isI mu → cfgE ce sl stp mu = 0 → Goes1 none (cfT ce sl stp mu) ⟨ce, sl, stp, mu, [], []⟩
  | thr (ce sl : Int) (stp : Nat) (mu : Int) (ts : List (List Opx)) : Goes1 (some ⟨ce, sl, stp, mu, ts, []⟩) thW ⟨ce, sl, stp, mu, ts ++ [[]], []⟩
  | op (ce sl : Int) (stp : Nat) (mu : Int) (ts : List (List Opx)) (l : List Opx) (o : Opx) : rightO o → Goes1 (some ⟨ce, sl, stp, mu, ts ++ [l], []⟩) (textO o) ⟨ce, sl, stp, mu, ts ++ [l ++ [o]], []⟩
  | pk (ce sl : Int) (stp : Nat) (mu : Int) (ts : List (List Opx)) (ps l : List Int) : ps.length % 20 = 0 → 1 ≤ l.length → l.length ≤ 20 → (∀ z ∈ l, isI z) → Goes1 (some ⟨ce, sl, stp, mu, ts, ps⟩) (pkT l) ⟨ce, sl, stp, mu, ts, ps ++ l⟩
theorem cfT_split (ce sl : Int) (stp : Nat) (mu : Int) : Lib.split (cfT ce sl stp mu) [32] = cfL ce sl stp mu := by
  refine split_join _ (by simp [cfL]) (fun f hf => ?_)
  simp [cfL] at hf
  rcases hf with rfl | rfl | rfl | rfl | rfl
  · unfold noB; decide
  · exact itoa_no _ 32 (by decide)
  · exact itoa_no _ 32 (by decide)
  · exact (dec_no _).1
  · exact itoa_no _ 32 (by decide)
theorem pkT_split (l : List Int) : Lib.split (pkT l) [32] = pkL l := by
  refine split_join _ (by simp [pkL]) (fun f hf => ?_)
  rcases List.mem_cons.1 hf with rfl | hf
  · unfold noB; decide
  · obtain ⟨x, _, rfl⟩ := List.mem_map.1 hf
    exact itoa_no _ 32 (by decide)
theorem thW_split : Lib.split thW [32] = [thW] := by
  have := split_join [thW] (by simp) (fun f hf => by simp at hf; subst hf; unfold noB; decide)
  simpa [Lib.join] using this
theorem textO_split (o : Opx) : Lib.split (textO o) [32] = partO o := (text_iff _ o).1 rfl
theorem itoa_inj {a b : Int} (ha : isI a) (hb : isI b) (e : Lib.itoa a = Lib.itoa b) : a = b := by
  have h1 := atoi_itoa a ha.1 ha.2
  rw [e, atoi_itoa b hb.1 hb.2] at h1
  injection h1 with h1
  exact h1.symm
theorem dec_inj {a b : Nat} (ha : isU a) (hb : isU b) (e : Lib.decDigits a = Lib.decDigits b) : a = b := by
  have h1 := natP_dec a ha
  rw [e, natP_dec b hb] at h1
  injection h1 with h1
  exact h1.symm
theorem itoas_inj : ∀ (l l' : List Int), (∀ z ∈ l, isI z) → (∀ z ∈ l', isI z) → l.map Lib.itoa = l'.map Lib.itoa → l = l'
  | [], [], _, _, _ => rfl
  | [], b :: l', _, _, e => by simp at e
  | a :: l, [], _, _, e => by simp at e
  | a :: l, b :: l', h, h', e => by
    simp only [List.map_cons, List.cons.injEq] at e
    rw [itoa_inj (h a (by simp)) (h' b (by simp)) e.1, itoas_inj l l' (fun z hz => h z (by simp [hz])) (fun z hz => h' z (by simp [hz])) e.2]
theorem opW_not (k : Nat) : opW k ≠ cfW ∧ opW k ≠ thW ∧ opW k ≠ pkW := by
  unfold opW
  by_cases hk : k < 11
  · have : k = 0 ∨ k = 1 ∨ k = 2 ∨ k = 3 ∨ k = 4 ∨ k = 5 ∨ k = 6 ∨ k = 7 ∨ k = 8 ∨ k = 9 ∨ k = 10 := by omega
    rcases this with rfl | rfl | rfl | rfl | rfl | rfl | rfl | rfl | rfl | rfl | rfl <;> decide
  · rw [List.getD, List.getElem?_eq_none (by show 11 ≤ k; omega)]
    decide
theorem part_head (o : Opx) : ∃ r, partO o = opW o.k :: r := by
  unfold partO partsO
  exact ⟨_, rfl⟩
theorem decs_inj : ∀ (l l' : List Nat), (∀ z ∈ l, isU z) → (∀ z ∈ l', isU z) → l.map Lib.decDigits = l'.map Lib.decDigits → l = l'
  | [], [], _, _, _ => rfl
  | [], b :: l', _, _, e => by simp at e
  | a :: l, [], _, _, e => by simp at e
  | a :: l, b :: l', h, h', e => by
    simp only [List.map_cons, List.cons.injEq] at e
    rw [dec_inj (h a (by simp)) (h' b (by simp)) e.1, decs_inj l l' (fun z hz => h z (by simp [hz])) (fun z hz => h' z (by simp [hz])) e.2]
theorem hText_inj {h : Nat} {s : Bool} {a b : Int} {h' : Nat} {s' : Bool} {a' b' : Int} (u : isU h) (ia : isI a) (ib : isI b) (r : rhB h s a b = true) (u' : isU h') (ia' : isI a') (ib' : isI b') (r' : rhB h' s' a' b' = true) (e : hText h s a b = hText h' s' a' b') : h = h' ∧ s = s' ∧ a = a' ∧ b = b' := by
  cases s with
  | false =>
    simp [rhB] at r
    have q := rf_nat (f := hText h false a b) (u := h) (fun hh => by have := hText_head.1 hh; simp at this) u (fun z hz => by
      have : natP (Lib.decDigits h) = some z := hz
      rw [natP_dec h u] at this
      injection this)
    obtain ⟨e1, e2, e3, e4⟩ := q.2.2.2 h' s' a' b' u' ia' ib' r' e
    exact ⟨e1, e2, by rw [r.1]; exact e3, by rw [r.2]; exact e4⟩
  | true =>
    have h0 : h = 0 := by simp [rhB] at r; exact r.1
    have e0 : hText h true a b = 64 :: (Lib.itoa a ++ 46 :: Lib.itoa b) := by simp [hText]
    have q := rf_ref (r := Lib.itoa a ++ 46 :: Lib.itoa b) (l := Lib.itoa a) (q := Lib.itoa b) (x := a) (y := b) (.inl ⟨rfl, itoa_dot a⟩) ia ib (fun z hz => by rw [atoi_itoa a ia.1 ia.2] at hz; injection hz) (fun z hz => by rw [atoi_itoa b ib.1 ib.2] at hz; injection hz)
    obtain ⟨e1, e2, e3, e4⟩ := q.2.2.2 h' s' a' b' u' ia' ib' r' (by rw [← e0]; exact e)
    exact ⟨h0.trans e1, e2, e3, e4⟩
theorem textO_inj {o o' : Opx} (h : rightO o) (h' : rightO o') (e : textO o = textO o') : o = o' := by
  have a := right_parts h
  have b := right_parts h'
  have e2 : partO o = partO o' := by rw [← textO_split o, e, textO_split]
  rw [a.parts, b.parts] at e2
  simp only [List.cons.injEq] at e2
  have hk : o.k = o'.k := by
    first | exact opW_inj o.k o'.k a.has b.has e2.1 | exact (opW_inj o.k o'.k a.has b.has e2.1).symm
  have er := e2.2
  rw [← hk] at er
  have key : (o.hnd = o'.hnd ∧ o.set = o'.set ∧ o.rt = o'.rt ∧ o.ri = o'.ri) ∧ nuO o = nuO o' := by
    cases hh : hndK o.k with
    | true =>
      rw [if_pos hh, if_pos hh] at er
      simp only [List.singleton_append, List.cons.injEq] at er
      exact ⟨hText_inj h.1.hnd h.1.rt h.1.ri (a.hd hh) h'.1.hnd h'.1.rt h'.1.ri (b.hd (by rw [← hk]; exact hh)) er.1, decs_inj _ _ (nu_u h.1) (nu_u h'.1) er.2⟩
    | false =>
      rw [if_neg (by rw [hh]; simp), if_neg (by rw [hh]; simp)] at er
      obtain ⟨x1, x2, x3, x4⟩ := a.nohd hh
      obtain ⟨y1, y2, y3, y4⟩ := b.nohd (by rw [← hk]; exact hh)
      exact ⟨⟨by rw [x1, y1], by rw [x2, y2], by rw [x3, y3], by rw [x4, y4]⟩, decs_inj _ _ (nu_u h.1) (nu_u h'.1) (by simpa using er)⟩
  obtain ⟨⟨k1, k2, k3, k4⟩, kn⟩ := key
  have fa := fk_of o.k o.key o.val o.old o.lo o.hi a.z1 a.z2 a.z3 a.z9 a.z10
  have fb := fk_of o'.k o'.key o'.val o'.old o'.lo o'.hi b.z1 b.z2 b.z3 b.z9 b.z10
  have kk : o.keys = o'.keys ∧ (numK o.k).map (numAt o.key o.val o.old o.lo o.hi) = (numK o'.k).map (numAt o'.key o'.val o'.old o'.lo o'.hi) := by
    unfold nuO at kn
    cases hy : kysK o.k with
    | true =>
      have n7 := numK_7 hy
      rw [← hk, n7] at kn ⊢
      simpa using kn
    | false =>
      rw [a.nokys hy, b.nokys (by rw [← hk]; exact hy)] at kn ⊢
      simpa using kn
  rw [kk.2] at fa
  rw [hk] at fa
  obtain ⟨f1, f2, f3, f9, f10⟩ := fa
  obtain ⟨g1, g2, g3, g9, g10⟩ := fb
  obtain ⟨ok, key, val, old, hnd, set, rt, ri, keys, lo, hi⟩ := o
  obtain ⟨ok', key', val', old', hnd', set', rt', ri', keys', lo', hi'⟩ := o'
  simp only at *
  subst hk k1 k2 k3 k4
  obtain ⟨rfl, _⟩ := kk
  rw [show key = key' from f1.symm.trans g1, show val = val' from f2.symm.trans g2, show old = old' from f3.symm.trans g3, show lo = lo' from f9.symm.trans g9, show hi = hi' from f10.symm.trans g10]
/-- a line leads to one script alone -/
theorem goes_one {st : Option Rdg} {line : List UInt8} {a b : Rdg} (h : Goes1 st line a) (h' : Goes1 st line b) : a = b := by
  cases h with
  | cfg ce sl stp mu i1 i2 i3 i4 hc =>
    generalize hl : cfT ce sl stp mu = line at h'
    cases h' with
    | cfg ce' sl' stp' mu' j1 j2 j3 j4 hc' =>
      have e := congrArg (fun t => Lib.split t [32]) hl
      simp only [cfT_split] at e
      simp only [cfL, List.cons.injEq, and_true, true_and] at e
      rw [itoa_inj i1 j1 e.1, itoa_inj i2 j2 e.2.1, dec_inj i3 j3 e.2.2.1, itoa_inj i4 j4 e.2.2.2]
  | thr ce sl stp mu ts =>
    generalize hl : thW = line at h'
    generalize hs : some (Rdg.mk ce sl stp mu ts []) = st at h'
    cases h' with
    | cfg => cases hs
    | thr => injection hs with hs; injection hs; subst_vars; rfl
    | op ce' sl' stp' mu' ts' l o ho =>
      have e := congrArg (fun t => Lib.split t [32]) hl
      simp only [thW_split, textO_split] at e
      obtain ⟨r, hr⟩ := part_head o
      rw [hr] at e
      simp only [List.cons.injEq] at e
      exact absurd e.1.symm (opW_not o.k).2.1
    | pk ce' sl' stp' mu' ts' ps l =>
      have e := congrArg (fun t => Lib.split t [32]) hl
      simp only [thW_split, pkT_split, pkL, List.cons.injEq] at e
      exact absurd e.1 (by decide)
  | op ce sl stp mu ts l o ho =>
    generalize hl : textO o = line at h'
    generalize hs : some (Rdg.mk ce sl stp mu (ts ++ [l]) []) = st at h'
    obtain ⟨r, hr⟩ := part_head o
    cases h' with
    | cfg => cases hs
    | thr =>
      have e := congrArg (fun t => Lib.split t [32]) hl
      simp only [thW_split, textO_split] at e
      rw [hr] at e
      simp only [List.cons.injEq] at e
      exact absurd e.1 (opW_not o.k).2.1
    | op ce' sl' stp' mu' ts' l' o' ho' =>
      have e := textO_inj ho ho' hl
      injection hs with hs
      injection hs with s1 s2 s3 s4 s5 s6
      have h5 := List.append_inj' s5 rfl
      obtain ⟨rfl, h6⟩ := h5
      simp only [List.cons.injEq, and_true] at h6
      subst s1 s2 s3 s4 e h6
      rfl
    | pk ce' sl' stp' mu' ts' ps l' =>
      have e := congrArg (fun t => Lib.split t [32]) hl
      simp only [textO_split, pkT_split, pkL] at e
      rw [hr] at e
      simp only [List.cons.injEq] at e
      exact absurd e.1 (opW_not o.k).2.2
  | pk ce sl stp mu ts ps l h1 h2 h3 h4 =>
    generalize hl : pkT l = line at h'
    generalize hs : some (Rdg.mk ce sl stp mu ts ps) = st at h'
    cases h' with
    | cfg => cases hs
    | thr =>
      have e := congrArg (fun t => Lib.split t [32]) hl
      simp only [thW_split, pkT_split, pkL, List.cons.injEq] at e
      exact absurd e.1 (by decide)
    | op ce' sl' stp' mu' ts' l' o ho =>
      obtain ⟨r, hr⟩ := part_head o
      have e := congrArg (fun t => Lib.split t [32]) hl
      simp only [textO_split, pkT_split, pkL] at e
      rw [hr] at e
      simp only [List.cons.injEq] at e
      exact absurd e.1.symm (opW_not o.k).2.2
    | pk ce' sl' stp' mu' ts' ps' l' g1 g2 g3 g4 =>
      have e := congrArg (fun t => Lib.split t [32]) hl
      simp only [pkT_split, pkL, List.cons.injEq, true_and] at e
      have e2 := itoas_inj l l' h4 g4 e
      injection hs with hs
      injection hs with s1 s2 s3 s4 s5 s6
      subst s1 s2 s3 s4 s5 s6 e2
      rfl
end Go.Proofs.YtmmaniolaljjlaaGreatDoor
/- How the reading of a script's text ends: what is pure. -/
namespace Go.Proofs.YtmmaniolaljjlaaGreatDoor
open Go.RowKit Go.Shelf
set_option linter.unusedVariables false

/-- lines that go on one behind the other -/
inductive RdAll : Option Rdg → List (List UInt8) → Option Rdg → Prop
  | nil (s : Option Rdg) : RdAll s [] s
  | cons (s : Option Rdg) (line : List UInt8) (x : Rdg) (ls : List (List UInt8)) (z : Option Rdg) : Goes1 s line x → RdAll (some x) ls z → RdAll s (line :: ls) z
theorem RdAll.one {s : Option Rdg} {ls : List (List UInt8)} {a b : Option Rdg} (h : RdAll s ls a) (h' : RdAll s ls b) : a = b := by
  induction h with
  | nil s => cases h'; rfl
  | cons s line x ls z hg hr ih =>
    cases h' with
    | cons _ _ y _ _ hg' hr' =>
      have := goes_one hg hg'
      subst this
      exact ih hr'
theorem RdAll.snoc {s : Option Rdg} {ls : List (List UInt8)} {a : Option Rdg} {line : List UInt8} {x : Rdg} (h : RdAll s ls a) (hg : Goes1 a line x) : RdAll s (ls ++ [line]) (some x) := by
  induction h with
  | nil s => exact .cons _ _ _ _ _ hg (.nil _)
  | cons s l y ls z hg' hr ih => exact .cons _ _ _ _ _ hg' (ih hg)
theorem RdAll.pre {s : Option Rdg} {l1 l2 : List (List UInt8)} {z : Option Rdg} (h : RdAll s (l1 ++ l2) z) : ∃ y, RdAll s l1 y ∧ RdAll y l2 z := by
  induction l1 generalizing s with
  | nil => exact ⟨s, .nil _, h⟩
  | cons a l1 ih =>
    cases h with
    | cons _ _ x _ _ hg hr =>
      obtain ⟨y, h1, h2⟩ := ih hr
      exact ⟨y, .cons _ _ _ _ _ hg h1, h2⟩
/-- all but the last part are lines; the last part has no end of line -/
def LnT (t : List UInt8) (ls : List (List UInt8)) (r : List UInt8) : Prop := t = joinL ls ++ r ∧ noB 10 r ∧ ∀ x ∈ ls, noB 10 x
theorem LnT.one {t : List UInt8} {ls ls' : List (List UInt8)} {r r' : List UInt8} (h : LnT t ls r) (h' : LnT t ls' r') : ls = ls' ∧ r = r' := by
  induction ls generalizing t ls' with
  | nil =>
    cases ls' with
    | nil => exact ⟨rfl, by have := h.1.symm.trans h'.1; simpa [joinL] using this⟩
    | cons a l =>
      exfalso
      have e := h.1.symm.trans h'.1
      rw [joinL_cons] at e
      simp only [joinL, List.map_nil, List.flatten_nil, List.nil_append] at e
      exact absurd rfl (h.2.1 10 (by rw [e]; simp))
  | cons a l ih =>
    cases ls' with
    | nil =>
      exfalso
      have e := h.1.symm.trans h'.1
      rw [joinL_cons] at e
      simp only [joinL, List.map_nil, List.flatten_nil, List.nil_append] at e
      exact absurd rfl (h'.2.1 10 (by rw [← e]; simp))
    | cons b l' =>
      have e := h.1.symm.trans h'.1
      rw [joinL_cons, joinL_cons] at e
      simp only [List.append_assoc, List.cons_append] at e
      obtain ⟨e1, e2⟩ := noB_cutG (h.2.2 a (by simp)) (h'.2.2 b (by simp)) e
      have := ih (t := joinL l ++ r) (ls' := l') ⟨rfl, h.2.1, fun x hx => h.2.2 x (by simp [hx])⟩ ⟨e2, h'.2.1, fun x hx => h'.2.2 x (by simp [hx])⟩
      exact ⟨by rw [e1, this.1], this.2⟩
/-- how the reading of a text ends: the script, or the line at which it is none -/
inductive PaR (t : List UInt8) : Option Rdg → Nat → Prop
  | ok (ls : List (List UInt8)) (x : Rdg) : LnT t ls [] → RdAll none ls (some x) → ¬ longT x.ts x.ps → PaR t (some x) 0
  | long (ls : List (List UInt8)) (x : Rdg) : LnT t ls [] → RdAll none ls (some x) → longT x.ts x.ps → PaR t none (ls.length + 1)
  | line (l1 : List (List UInt8)) (line : List UInt8) (l2 : List (List UInt8)) (r : List UInt8) (s : Option Rdg) : LnT t (l1 ++ line :: l2) r → RdAll none l1 s → (∀ x, ¬ Goes1 s line x) → PaR t none (l1.length + 1)
  | rest (ls : List (List UInt8)) (r : List UInt8) (s : Option Rdg) : LnT t ls r → (r ≠ [] ∨ ls = []) → RdAll none ls s → PaR t none (ls.length + 1)
theorem rd_stop {l1 l2 : List (List UInt8)} {line : List UInt8} {s : Option Rdg} {z : Option Rdg} (h : RdAll none l1 s) (hn : ∀ x, ¬ Goes1 s line x) (h' : RdAll none (l1 ++ line :: l2) z) : False := by
  obtain ⟨y, h1, h2⟩ := h'.pre
  have := h1.one h
  subst this
  cases h2 with
  | cons _ _ x _ _ hg _ => exact hn x hg
theorem rd_none {ls : List (List UInt8)} {x : Rdg} (h : RdAll none ls (some x)) : ls ≠ [] := by
  rintro rfl
  cases h
theorem PaR.one {t : List UInt8} {a b : Option Rdg} {n m : Nat} (h : PaR t a n) (h' : PaR t b m) : a = b ∧ n = m := by
  cases h with
  | ok ls x hl hr hg =>
    cases h' with
    | ok ls' x' hl' hr' hg' =>
      obtain ⟨rfl, _⟩ := hl.one hl'
      exact ⟨hr.one hr', rfl⟩
    | long ls' x' hl' hr' hg' =>
      obtain ⟨rfl, _⟩ := hl.one hl'
      have e := hr.one hr'
      injection e with e
      subst e
      exact absurd hg' hg
    | line l1 line l2 r s hl' hr' hn =>
      obtain ⟨rfl, _⟩ := hl.one hl'
      exact (rd_stop hr' hn hr).elim
    | rest ls' r s hl' hc hr' =>
      obtain ⟨rfl, e⟩ := hl.one hl'
      rcases hc with hc | rfl
      · exact absurd e.symm hc
      · exact absurd rfl (rd_none hr)
  | long ls x hl hr hg =>
    cases h' with
    | ok ls' x' hl' hr' hg' =>
      obtain ⟨rfl, _⟩ := hl.one hl'
      have e := hr.one hr'
      injection e with e
      subst e
      exact absurd hg hg'
    | long ls' x' hl' hr' hg' =>
      obtain ⟨rfl, _⟩ := hl.one hl'
      exact ⟨rfl, rfl⟩
    | line l1 line l2 r s hl' hr' hn =>
      obtain ⟨rfl, _⟩ := hl.one hl'
      exact (rd_stop hr' hn hr).elim
    | rest ls' r s hl' hc hr' =>
      obtain ⟨rfl, e⟩ := hl.one hl'
      exact ⟨rfl, rfl⟩
  | line l1 line l2 r s hl hr hn =>
    cases h' with
    | ok ls' x' hl' hr' hg' =>
      obtain ⟨rfl, _⟩ := hl'.one hl
      exact (rd_stop hr hn hr').elim
    | long ls' x' hl' hr' hg' =>
      obtain ⟨rfl, _⟩ := hl'.one hl
      exact (rd_stop hr hn hr').elim
    | line k1 line' k2 r' s' hl' hr' hn' =>
      obtain ⟨e, _⟩ := hl.one hl'
      refine ⟨rfl, ?_⟩
      rcases Nat.lt_trichotomy l1.length k1.length with h | h | h
      · obtain ⟨w, hw⟩ : ∃ w, k1 = l1 ++ line :: w := by
          have h1 := congrArg (List.take k1.length) e
          rw [List.take_append_of_le_length (Nat.le_refl _), List.take_length, List.take_append, List.take_of_length_le (by omega)] at h1
          obtain ⟨d, hd⟩ : ∃ d, k1.length - l1.length = d + 1 := ⟨k1.length - l1.length - 1, by omega⟩
          rw [hd, List.take_succ_cons] at h1
          exact ⟨_, h1.symm⟩
        rw [hw] at hr'
        exact (rd_stop hr hn hr').elim
      · omega
      · obtain ⟨w, hw⟩ : ∃ w, l1 = k1 ++ line' :: w := by
          have h1 := congrArg (List.take l1.length) e
          rw [List.take_append_of_le_length (Nat.le_refl _), List.take_length, List.take_append, List.take_of_length_le (by omega)] at h1
          obtain ⟨d, hd⟩ : ∃ d, l1.length - k1.length = d + 1 := ⟨l1.length - k1.length - 1, by omega⟩
          rw [hd, List.take_succ_cons] at h1
          exact ⟨_, h1⟩
        rw [hw] at hr
        exact (rd_stop hr' hn' hr).elim
    | rest ls' r' s' hl' hc hr' =>
      obtain ⟨rfl, _⟩ := hl'.one hl
      exact (rd_stop hr hn hr').elim
  | rest ls r s hl hc hr =>
    cases h' with
    | ok ls' x' hl' hr' hg' =>
      obtain ⟨rfl, e⟩ := hl.one hl'
      rcases hc with hc | rfl
      · exact absurd e hc
      · exact absurd rfl (rd_none hr')
    | long ls' x' hl' hr' hg' =>
      obtain ⟨rfl, e⟩ := hl.one hl'
      exact ⟨rfl, rfl⟩
    | line l1 line l2 r' s' hl' hr' hn =>
      obtain ⟨rfl, _⟩ := hl.one hl'
      exact (rd_stop hr' hn hr).elim
    | rest ls' r' s' hl' hc' hr' =>
      obtain ⟨rfl, _⟩ := hl.one hl'
      exact ⟨rfl, rfl⟩
end Go.Proofs.YtmmaniolaljjlaaGreatDoor
