/- VcasChain: what is known of the Cas that were done, what is used, found, and the walk. -/
import Derived.Test.YtadbgmcfjemkeaaIa
import Derived.WalkKit
import Derived.BigQuiet
import Derived.Deep.RegionHeld3
namespace Go.Proofs.Ytadbgmcfjemkeaa
open Go.RowKit Go.Shelf
set_option linter.unusedVariables false

def VP.four : VP → Prop
  | .inr (.inl s) => s.s.nx = 4
  | _ => False
/-- Who is at its version's stamp stands at its call. -/
def Pend (T : Nat) (cl : Nat → Nat) (c : Cfg VP) : Prop := ∀ i j, i < T → j < cl i → VP.four (c.σ i j) → j = c.ix i
theorem stp_four {next : Nat} {cs : List Nat} {ch : Nat → List Nat} {own : Nat → Nat × Nat} {ij : Nat × Nat} {s : VP} {th : Int} (h : GI next cs ch) (P : VP.pp next cs ch own ij s) (hon : VP.on s) (hd : (vcK.stp th 16384 next cs s).done = true) : ¬ VP.four (vcK.stp th 16384 next cs s).s := by
  rcases s with s | s | s | s
  · exact fun z => z
  · intro z
    obtain ⟨ch', own', g1, g2, g3, g4, g5, g6, g7, g8⟩ := cas_gi (th := th) h P hon _ rfl
    have z4 : (casO th 16384 next cs s.cam s.obj s.s).s.nx = 4 := z
    have z6 := g4 hd
    omega
  · exact fun z => z
  · exact fun z => z
theorem Pend.pick {T : Nat} {cl : Nat → Nat} {c : Cfg VP} {ch : Nat → List Nat} {own : Nat → Nat × Nat} (h : VInv T cl c ch own) (P : Pend T cl c) (th : Int) : Pend T cl (c.pick vcK 16384 T cl th) := by
  unfold Cfg.pick
  split
  · next c0 =>
    obtain ⟨i, rfl⟩ : ∃ i : Nat, th = (i : Int) := ⟨th.toNat, by omega⟩
    have hi : i < T := by omega
    have hj : c.ix i < cl i := by simpa using c0.2.2
    show Pend T cl (c.go vcK 16384 i)
    intro p q hp hq h4
    have h4' : VP.four (updN c.σ i (updN (c.σ i) (c.ix i) (c.out vcK 16384 i).s) p q) := h4
    show q = updN c.ix i (if (c.out vcK 16384 i).done then c.ix i + 1 else c.ix i) p
    by_cases e : p = i
    · subst e
      rw [updN_same] at h4' ⊢
      by_cases e2 : q = c.ix p
      · subst e2
        rw [updN_same] at h4'
        cases hd : (c.out vcK 16384 p).done
        · simp
        · exact (stp_four (th := (p : Int)) h.gi (h.pp p (c.ix p) hi hj) (h.on p (c.ix p) hi hj (Nat.le_refl _)) hd h4').elim
      · rw [updN_other _ _ _ _ e2] at h4'
        exact (e2 (P p q hp hq h4')).elim
    · rw [updN_other _ _ _ _ e] at h4' ⊢
      exact P p q hp hq h4'
  · exact P
theorem Pend.run {T : Nat} {cl : Nat → Nat} (picks : List Int) {c : Cfg VP} {ch : Nat → List Nat} {own : Nat → Nat × Nat} (h : VInv T cl c ch own) (P : Pend T cl c) : Pend T cl (c.run vcK 16384 T cl picks) := by
  induction picks generalizing c ch own with
  | nil => exact P
  | cons x r ih =>
    obtain ⟨ch1, own1, v1⟩ := h.pick x
    exact ih v1.inv (P.pick h x)
/-- A call that puts one value in the place of another one. -/
def mtC (o was now : Nat) (q : CallV) : Bool := decide (q.kind = 1 ∧ q.obj % 3 = o ∧ q.a = was ∧ q.b = now ∧ q.a ≠ q.b)
def callAt (L : List ThrV) (i j : Nat) : Option CallV := (L[i]?).bind fun t => t.ks[j]?
def mt (L : List ThrV) (o was now : Nat) (i j : Nat) : Prop := ∃ q, callAt L i j = some q ∧ mtC o was now q = true
/-- All that VcasChain asks of a run. -/
structure Fin (L R : List ThrV) (T : Nat) (cl : Nat → Nat) (c : Cfg VP) (ch : Nat → List Nat) (own : Nat → Nat × Nat) : Prop where
  inv : VInv T cl c ch own
  ow : OWn T cl c ch own
  pend : Pend T cl c
  tl : T = L.length
  len : ∀ i t, L[i]? = some t → cl i = t.ks.length
  call : ∀ i j, i < T → j < cl i → ∃ q, callAt L i j = some q ∧ VP.sig (c.σ i j) = VP.sig q.pl.start
  kinds : ∀ i j q, callAt L i j = some q → 0 ≤ q.kind ∧ q.kind ≤ 3
section
variable {L R : List ThrV} {T : Nat} {cl : Nat → Nat} {c : Cfg VP} {ch : Nat → List Nat} {own : Nat → Nat × Nat}
theorem Fin.casAt (F : Fin L R T cl c ch own) {i j : Nat} (hi : i < T) (hj : j < cl i) {s : CasP} (hs : c.σ i j = .inr (.inl s)) : ∃ q, callAt L i j = some q ∧ q.kind = 1 ∧ s.obj = 2 + q.obj % 3 ∧ s.s.old = q.a ∧ s.s.now = q.b := by
  obtain ⟨q, hq, sg⟩ := F.call i j hi hj
  have kd := F.kinds i j q hq
  rw [hs] at sg
  refine ⟨q, hq, ?_⟩
  unfold CallV.start at sg
  have k1 : q.pl.kind = q.kind := rfl
  rw [k1] at sg
  by_cases k0 : q.kind = 0
  · rw [if_pos k0] at sg; simp [VP.sig] at sg
  · by_cases k1 : q.kind = 1
    · rw [if_neg k0, if_pos k1] at sg
      simp only [VP.sig, Prod.mk.injEq] at sg
      exact ⟨k1, sg.2.1, sg.2.2.1, sg.2.2.2⟩
    · by_cases k2 : q.kind = 2
      · rw [if_neg k0, if_neg k1, if_pos k2] at sg; simp [VP.sig] at sg
      · rw [if_neg k0, if_neg k1, if_neg k2] at sg; simp [VP.sig] at sg
theorem Fin.casOf (F : Fin L R T cl c ch own) {i j : Nat} (hi : i < T) (hj : j < cl i) {q : CallV} (hq : callAt L i j = some q) (k1 : q.kind = 1) : ∃ s : CasP, c.σ i j = .inr (.inl s) ∧ s.obj = 2 + q.obj % 3 ∧ s.s.old = q.a ∧ s.s.now = q.b := by
  obtain ⟨q', hq', sg⟩ := F.call i j hi hj
  rw [hq] at hq'
  obtain rfl : q = q' := by simpa using hq'
  have es : q.pl.start = .inr (.inl ⟨1, q.pl.obj, ⟨⟨⟨0, 0, 0, 0, 0⟩, 0, 0⟩, q.a, q.b, 0, 0, false, 0⟩⟩) := by
    unfold CallV.start
    rw [if_neg (show ¬ q.pl.kind = 0 by show ¬ q.kind = 0; omega), if_pos (show q.pl.kind = 1 from k1)]
    rfl
  rw [es] at sg
  rcases hs : c.σ i j with s | s | s | s
  · rw [hs] at sg; simp [VP.sig] at sg
  · rw [hs] at sg
    simp only [VP.sig, Prod.mk.injEq] at sg
    exact ⟨s, rfl, sg.2.1, sg.2.2.1, sg.2.2.2⟩
  · rw [hs] at sg; simp [VP.sig] at sg
  · rw [hs] at sg; simp [VP.sig] at sg
/-- Each version has the Cas that put it there. -/
theorem Fin.ver (F : Fin L R T cl c ch own) {o a : Nat} (ho : isO o) (ha : a ∈ ch o) : ∃ s : CasP, (own a).1 < T ∧ (own a).2 < cl (own a).1 ∧ c.σ (own a).1 (own a).2 = .inr (.inl s) ∧ s.obj = o ∧ s.s.made = a ∧ Inst s.s ∧ Ins c.cs (ch o) own (own a) s.s := by
  obtain ⟨h1, h2, h3⟩ := F.ow o a ho ha
  have P := F.inv.pp _ _ h1 h2
  rcases hs : c.σ (own a).1 (own a).2 with s | s | s | s
  · rw [hs] at h3; exact h3.elim
  · rw [hs] at h3 P
    obtain ⟨e1, e2, e3⟩ := h3
    have I := CasP.pp.ins P e3
    rw [e1] at I
    exact ⟨s, h1, h2, rfl, e1, e2, e3, I⟩
  · rw [hs] at h3; exact h3.elim
  · rw [hs] at h3; exact h3.elim
theorem Fin.inj (F : Fin L R T cl c ch own) {o p a b : Nat} (ho : isO o) (hp : isO p) (ha : a ∈ ch o) (hb : b ∈ ch p) (e : own a = own b) : o = p ∧ a = b := by
  obtain ⟨s, _, _, h3, h4, h5, _⟩ := F.ver ho ha
  obtain ⟨t, _, _, k3, k4, k5, _⟩ := F.ver hp hb
  rw [e] at h3
  rw [h3] at k3
  simp at k3
  subst k3
  exact ⟨h4.symm.trans k4, h5.symm.trans k5⟩
/-- What a version was put in the place of. -/
def wasN (cs : List Nat) (o K n : Nat) : Nat := if n + 1 < K then cellN cs (hN cs o (n + 1)) else 0
theorem Fin.mt (F : Fin L R T cl c ch own) {o K n : Nat} (ho : o < 3) (S : Stops c.cs 16384 (o + 2) K) (hn : n < K) :
    (own (hN c.cs (o + 2) n)).1 < T ∧ (own (hN c.cs (o + 2) n)).2 < cl (own (hN c.cs (o + 2) n)).1 ∧ mt L o (wasN c.cs (o + 2) K n) (cellN c.cs (hN c.cs (o + 2) n)) (own (hN c.cs (o + 2) n)).1 (own (hN c.cs (o + 2) n)).2 := by
  have hIo : isO (o + 2) := ⟨by omega, by omega⟩
  obtain ⟨e1, e2⟩ := F.inv.gi.stops hIo S
  obtain ⟨g1, g2⟩ := hN_ch (F.inv.gi.chn (o + 2) hIo)
  have hg := List.getElem?_eq_getElem (show n < (ch (o + 2)).length by omega)
  have en := e2 n _ hg
  have mem := List.mem_of_getElem? hg
  rw [← en] at mem
  obtain ⟨s, h1, h2, h3, h4, h5, h6, I⟩ := F.ver hIo mem
  obtain ⟨q, q1, q2, q3, q4, q5⟩ := F.casAt h1 h2 h3
  refine ⟨h1, h2, q, q1, ?_⟩
  have ev : cellN c.cs (hN c.cs (o + 2) n) = q.b := by rw [← h5, I.v, q5]
  have el : cellN c.cs (hN c.cs (o + 2) n + 2) = hN c.cs (o + 2) (n + 1) := rfl
  have ew : wasN c.cs (o + 2) K n = q.a := by
    have io := I.old
    rw [h5, el] at io
    rw [q4] at io
    unfold wasN
    by_cases c1 : n + 1 < K
    · rw [if_pos c1]
      have hg1 := List.getElem?_eq_getElem (show n + 1 < (ch (o + 2)).length by omega)
      have ne := (F.inv.gi.vs _ hIo _ (List.mem_of_getElem? hg1)).1
      rw [← e2 _ _ hg1] at ne
      rcases io with z | z
      · omega
      · exact z.2
    · rw [if_neg c1]
      have z0 : hN c.cs (o + 2) (n + 1) = 0 := by rw [show n + 1 = (ch (o + 2)).length by omega]; exact g2
      rcases io with z | z
      · exact z.2.symm
      · have := (F.inv.gi.vs _ hIo _ z.1).1
        omega
  have ne := I.ne
  rw [q4, q5] at ne
  exact decide_eq_true ⟨q2, by omega, ew.symm, ev.symm, ne⟩
end
/-- Of the versions that are left each has a Cas of its own that is not used. -/
structure Asg (L : List ThrV) (T : Nat) (cl : Nat → Nat) (o : Nat) (was val : Nat → Nat) (U : Nat → Nat → Bool) (r : Nat) (w : Nat → Nat × Nat) : Prop where
  rng : ∀ n, n < r → (w n).1 < T ∧ (w n).2 < cl (w n).1
  mt : ∀ n, n < r → mt L o (was n) (val n) (w n).1 (w n).2
  free : ∀ n, n < r → U (w n).1 (w n).2 = false
  inj : ∀ n m, n < r → m < r → w n = w m → n = m
def updB (U : Nat → Nat → Bool) (i j : Nat) : Nat → Nat → Bool := fun a b => if a = i ∧ b = j then true else U a b
theorem mt.same {L : List ThrV} {o was now was' now' i j : Nat} (h : mt L o was now i j) (k : mt L o was' now' i j) : was = was' ∧ now = now' := by
  obtain ⟨q, hq, h⟩ := h
  obtain ⟨q', hq', k⟩ := k
  rw [hq] at hq'
  obtain rfl : q = q' := by simpa using hq'
  have h := of_decide_eq_true h
  have k := of_decide_eq_true k
  exact ⟨h.2.2.1.symm.trans k.2.2.1, h.2.2.2.1.symm.trans k.2.2.2.1⟩
theorem Asg.next {L : List ThrV} {T : Nat} {cl : Nat → Nat} {o : Nat} {was val : Nat → Nat} {U : Nat → Nat → Bool} {r : Nat} {w : Nat → Nat × Nat} (h : Asg L T cl o was val U (r + 1) w) {i j : Nat} (hm : Go.Proofs.Ytadbgmcfjemkeaa.mt L o (was r) (val r) i j) (hU : U i j = false) : ∃ w', Asg L T cl o was val (updB U i j) r w' := by
  refine ⟨fun n => if w n = (i, j) then w r else w n, fun n hn => ?_, fun n hn => ?_, fun n hn => ?_, fun n m hn hm' e => ?_⟩
  · show (if w n = (i, j) then w r else w n).1 < T ∧ _
    split
    · exact h.rng r (by omega)
    · exact h.rng n (by omega)
  · show Go.Proofs.Ytadbgmcfjemkeaa.mt L o (was n) (val n) (if w n = (i, j) then w r else w n).1 (if w n = (i, j) then w r else w n).2
    split
    · next e =>
      have a := h.mt n (by omega)
      rw [e] at a
      obtain ⟨e1, e2⟩ := a.same hm
      rw [e1, e2]
      exact h.mt r (by omega)
    · exact h.mt n (by omega)
  · show updB U i j (if w n = (i, j) then w r else w n).1 (if w n = (i, j) then w r else w n).2 = false
    unfold updB
    split
    · next e =>
      rw [if_neg (fun z => ?_)]
      · exact h.free r (by omega)
      · have : w r = (i, j) := Prod.ext z.1 z.2
        have := h.inj n r (by omega) (by omega) (e.trans this.symm)
        omega
    · next e =>
      rw [if_neg (fun z => e (Prod.ext z.1 z.2))]
      exact h.free n (by omega)
  · have e : (if w n = (i, j) then w r else w n) = (if w m = (i, j) then w r else w m) := e
    split at e
    · next e1 =>
      split at e
      · next e2 => exact h.inj n m (by omega) (by omega) (e1.trans e2.symm)
      · have := h.inj r m (by omega) (by omega) e; omega
    · next e1 =>
      split at e
      · have := h.inj n r (by omega) (by omega) e; omega
      · exact h.inj n m (by omega) (by omega) e
theorem Fin.asg {L R : List ThrV} {T : Nat} {cl : Nat → Nat} {c : Cfg VP} {ch : Nat → List Nat} {own : Nat → Nat × Nat} (F : Fin L R T cl c ch own) {o K : Nat} (ho : o < 3) (S : Stops c.cs 16384 (o + 2) K) : Asg L T cl o (wasN c.cs (o + 2) K) (fun n => cellN c.cs (hN c.cs (o + 2) n)) (fun _ _ => false) K (fun n => own (hN c.cs (o + 2) n)) := by
  have hIo : isO (o + 2) := ⟨by omega, by omega⟩
  obtain ⟨e1, e2⟩ := F.inv.gi.stops hIo S
  refine ⟨fun n hn => ⟨(F.mt ho S hn).1, (F.mt ho S hn).2.1⟩, fun n hn => (F.mt ho S hn).2.2, fun n hn => rfl, fun n m hn hm e => ?_⟩
  have gn := List.getElem?_eq_getElem (show n < (ch (o + 2)).length by omega)
  have gm := List.getElem?_eq_getElem (show m < (ch (o + 2)).length by omega)
  rw [e2 n _ gn, e2 m _ gm] at e
  have q := (F.inj hIo hIo (List.mem_of_getElem? gn) (List.mem_of_getElem? gm) e).2
  rcases Nat.lt_trichotomy n m with z | z | z
  · have := (List.pairwise_iff_getElem.1 (F.inv.gi.pw _ hIo)) n m (by omega) (by omega) z
    have := this.1
    omega
  · exact z
  · have := (List.pairwise_iff_getElem.1 (F.inv.gi.pw _ hIo)) m n (by omega) (by omega) z
    have := this.1
    omega
/- How many were done. -/
theorem nodup_le {α : Type} [DecidableEq α] {l m : List α} (h : l.Nodup) (s : ∀ x ∈ l, x ∈ m) : l.length ≤ m.length := by
  induction l generalizing m with
  | nil => exact Nat.zero_le _
  | cons x r ih =>
    obtain ⟨h1, h2⟩ := List.nodup_cons.1 h
    have hx := s x (by simp)
    have := ih (m := m.erase x) h2 (fun y hy => (List.mem_erase_of_ne (fun e => h1 (by rw [← e]; exact hy))).2 (s y (by simp [hy])))
    have := List.length_erase_of_mem hx
    have := List.length_pos_of_mem hx
    simp only [List.length_cons]
    omega
def dnRow (f : Nat → Nat → Bool) (i : Nat) : Nat → List (Nat × Nat)
  | 0 => []
  | n + 1 => dnRow f i n ++ (if f i n then [(i, n)] else [])
def dnAll (f : Nat → Nat → Bool) (cl : Nat → Nat) : Nat → List (Nat × Nat)
  | 0 => []
  | n + 1 => dnAll f cl n ++ dnRow f n (cl n)
theorem dnRow_mem (f : Nat → Nat → Bool) (i n : Nat) (x : Nat × Nat) : x ∈ dnRow f i n ↔ x.1 = i ∧ x.2 < n ∧ f i x.2 = true := by
  induction n with
  | zero => simp [dnRow]
  | succ n ih =>
    simp only [dnRow, List.mem_append, ih]
    constructor
    · rintro (⟨a, b, e⟩ | h)
      · exact ⟨a, by omega, e⟩
      · split at h
        · next c => simp at h; subst h; exact ⟨rfl, by simp, c⟩
        · simp at h
    · rintro ⟨a, b, e⟩
      by_cases c : x.2 = n
      · right
        rw [c] at e
        rw [if_pos e]
        simp
        exact Prod.ext a c
      · exact .inl ⟨a, by omega, e⟩
theorem dnAll_mem (f : Nat → Nat → Bool) (cl : Nat → Nat) (n : Nat) (x : Nat × Nat) : x ∈ dnAll f cl n ↔ x.1 < n ∧ x.2 < cl x.1 ∧ f x.1 x.2 = true := by
  induction n with
  | zero => simp [dnAll]
  | succ n ih =>
    simp only [dnAll, List.mem_append, ih, dnRow_mem]
    constructor
    · rintro (⟨a, b, e⟩ | ⟨a, b, e⟩)
      · exact ⟨by omega, b, e⟩
      · subst a; exact ⟨by omega, b, e⟩
    · rintro ⟨a, b, e⟩
      by_cases k : x.1 = n
      · subst k; exact .inr ⟨rfl, b, e⟩
      · exact .inl ⟨by omega, b, e⟩
theorem dnRow_nodup (f : Nat → Nat → Bool) (i n : Nat) : (dnRow f i n).Nodup := by
  induction n with
  | zero => exact List.nodup_nil
  | succ n ih =>
    simp only [dnRow]
    refine List.nodup_append.2 ⟨ih, by split <;> simp, fun x hx y hy e => ?_⟩
    subst e
    have := ((dnRow_mem f i n x).1 hx).2.1
    split at hy
    · simp at hy; subst hy; simp at this
    · simp at hy
theorem dnAll_nodup (f : Nat → Nat → Bool) (cl : Nat → Nat) (n : Nat) : (dnAll f cl n).Nodup := by
  induction n with
  | zero => exact List.nodup_nil
  | succ n ih =>
    simp only [dnAll]
    refine List.nodup_append.2 ⟨ih, dnRow_nodup f n (cl n), fun x hx y hy e => ?_⟩
    subst e
    have a := ((dnAll_mem f cl n x).1 hx).1
    have b := ((dnRow_mem f n (cl n) x).1 hy).1
    omega
def casD : VP → Bool
  | .inr (.inl s) => decide (s.s.nx = 6) && s.s.sw
  | _ => false
/-- The Cas of unlike values that were done. -/
def dnF (L : List ThrV) (c : Cfg VP) (i j : Nat) : Bool := match callAt L i j with
  | some q => decide (q.kind = 1) && (decide (q.a ≠ q.b) && casD (c.σ i j))
  | none => false
theorem Fin.count {L R : List ThrV} {T : Nat} {cl : Nat → Nat} {c : Cfg VP} {ch : Nat → List Nat} {own : Nat → Nat × Nat} (F : Fin L R T cl c ch own) :
    (dnAll (dnF L c) cl T).length ≤ (ch 2).length + (ch 3).length + (ch 4).length ∧ (ch 2).length + (ch 3).length + (ch 4).length ≤ (dnAll (dnF L c) cl T).length + T := by
  have i2 : isO 2 := ⟨by omega, by omega⟩
  have i3 : isO 3 := ⟨by omega, by omega⟩
  have i4 : isO 4 := ⟨by omega, by omega⟩
  have hl : ((ch 2 ++ ch 3 ++ ch 4).map own).length = (ch 2).length + (ch 3).length + (ch 4).length := by simp; omega
  have pw : ∀ o, isO o → (ch o).Nodup := fun o ho => (F.inv.gi.pw o ho).imp (fun r e => by have := r.1; omega)
  have mem : ∀ a, a ∈ ch 2 ++ ch 3 ++ ch 4 → ∃ o, isO o ∧ a ∈ ch o := fun a ha => by
    simp only [List.mem_append] at ha
    rcases ha with (h | h) | h
    · exact ⟨2, i2, h⟩
    · exact ⟨3, i3, h⟩
    · exact ⟨4, i4, h⟩
  have nd0 : (ch 2 ++ ch 3 ++ ch 4).Nodup := by
    refine List.nodup_append.2 ⟨List.nodup_append.2 ⟨pw 2 i2, pw 3 i3, fun x hx y hy e => ?_⟩, pw 4 i4, fun x hx y hy e => ?_⟩
    · subst e; have := F.inv.gi.dj 2 3 x i2 i3 hx hy; omega
    · subst e
      rcases List.mem_append.1 hx with h | h
      · have := F.inv.gi.dj 2 4 x i2 i4 h hy; omega
      · have := F.inv.gi.dj 3 4 x i3 i4 h hy; omega
  have nd : ((ch 2 ++ ch 3 ++ ch 4).map own).Nodup := by
    refine List.pairwise_map.2 ((List.Pairwise.and_mem.1 nd0).imp ?_)
    rintro a b ⟨ha, hb, ne⟩ e
    obtain ⟨o, ho, ha⟩ := mem a ha
    obtain ⟨p, hp, hb⟩ := mem b hb
    exact ne (F.inj ho hp ha hb e).2
  have dec : ∀ i j, i < T → j < cl i → dnF L c i j = true → ∃ s : CasP, c.σ i j = .inr (.inl s) ∧ s.s.nx = 6 ∧ s.s.sw = true ∧ s.s.old ≠ s.s.now := fun i j hi hj hf => by
    unfold dnF at hf
    split at hf
    · next q hq =>
      simp only [Bool.and_eq_true, decide_eq_true_eq] at hf
      obtain ⟨s, hs, _, e1, e2⟩ := F.casOf hi hj hq hf.1
      have d := hf.2.2
      rw [hs] at d
      unfold casD at d
      simp only [Bool.and_eq_true, decide_eq_true_eq] at d
      exact ⟨s, hs, d.1, d.2, by rw [e1, e2]; exact hf.2.1⟩
    · simp at hf
  constructor
  · rw [← hl]
    refine nodup_le (dnAll_nodup _ _ _) (fun x hx => ?_)
    obtain ⟨a, b, e⟩ := (dnAll_mem _ _ _ x).1 hx
    obtain ⟨s, hs, n6, sw, ne⟩ := dec x.1 x.2 a b e
    have P := F.inv.pp x.1 x.2 a b
    rw [hs] at P
    have I := CasP.pp.ins P (.inr ⟨n6, sw, ne⟩)
    refine List.mem_map.2 ⟨s.s.made, ?_, I.ow⟩
    have io := CasP.pp.obj P
    have m := I.mem
    obtain ⟨o1, o2⟩ := io
    simp only [List.mem_append]
    obtain e | e | e : s.obj = 2 ∨ s.obj = 3 ∨ s.obj = 4 := by omega
    · rw [e] at m; exact .inl (.inl m)
    · rw [e] at m; exact .inl (.inr m)
    · rw [e] at m; exact .inr m
  · rw [← hl]
    have le := nodup_le (m := dnAll (dnF L c) cl T ++ (List.range T).map (fun i => (i, c.ix i))) nd (fun x hx => ?_)
    · simpa using le
    · obtain ⟨a, ha, rfl⟩ := List.mem_map.1 hx
      obtain ⟨o, ho, ha⟩ := mem a ha
      obtain ⟨s, h1, h2, h3, h4, h5, h6, I⟩ := F.ver ho ha
      rcases h6 with z | ⟨z1, z2, z3⟩
      · refine List.mem_append_right _ (List.mem_map.2 ⟨(own a).1, List.mem_range.2 h1, ?_⟩)
        have := F.pend _ _ h1 h2 (by rw [h3]; exact z)
        exact Prod.ext rfl this.symm
      · refine List.mem_append_left _ ((dnAll_mem _ _ _ _).2 ⟨h1, h2, ?_⟩)
        obtain ⟨q, q1, q2, _, q4, q5⟩ := F.casAt h1 h2 h3
        unfold dnF
        rw [q1, h3]
        simp only [casD, Bool.and_eq_true, decide_eq_true_eq]
        exact ⟨q2, by rw [← q4, ← q5]; exact z3, z1, z2⟩
theorem dnRow_len (f : Nat → Nat → Bool) (i n : Nat) : (dnRow f i n).length ≤ n := by
  induction n with
  | zero => exact Nat.le_refl _
  | succ n ih => simp only [dnRow, List.length_append]; split <;> simp <;> omega
theorem dnAll_len (f : Nat → Nat → Bool) (cl : Nat → Nat) (n M : Nat) (h : ∀ i, i < n → cl i ≤ M) : (dnAll f cl n).length ≤ n * M := by
  induction n with
  | zero => simp [dnAll]
  | succ n ih =>
    simp only [dnAll, List.length_append]
    have a := ih (fun i hi => h i (by omega))
    have b := dnRow_len f n (cl n)
    have d := h n (by omega)
    rw [Nat.succ_mul]
    omega
theorem mt.out {L : List ThrV} {o was now i j : Nat} {q : CallV} (h : Go.Proofs.Ytadbgmcfjemkeaa.mt L o was now i j) (hq : callAt L i j = some q) : q.kind = 1 ∧ q.obj % 3 = o ∧ q.a = was ∧ q.b = now ∧ q.a ≠ q.b := by
  obtain ⟨q', hq', h⟩ := h
  rw [hq] at hq'
  obtain rfl : q = q' := by simpa using hq'
  exact of_decide_eq_true h
/-- A run's end has all of it. -/
theorem RE.fin {W X Z : World} {m b : Nat} {L R : List ThrV} {picks : List Int} {k next : Nat} {cs : List Nat} {sv : Value} {r : Nat} {cl vb : Nat → Nat} {pv : Nat → Nat → Value} {c0 : Cfg VP} {qv : Nat → Value} (h : RE W m b R picks k next cs (fun _ => []) X sv r cl vb pv c0 Z qv) (hR : R.map ThrV.ks = L.map (fun t => t.ks.map CallV.pl)) (hk : ∀ t ∈ L, ∀ q ∈ t.ks, 0 ≤ q.kind ∧ q.kind ≤ 3) :
    ∃ ch own, Fin L R R.length cl (c0.run vcK 16384 R.length cl (picks.take k)) ch own ∧ EndR W X m b R sv cl pv qv (c0.run vcK 16384 R.length cl (picks.take k)) ch own k := by
  obtain ⟨ch, own, V, E⟩ := h.ends
  have hl : R.length = L.length := by have := congrArg List.length hR; simpa using this
  have key : ∀ (i : Nat) (t : ThrV), L[i]? = some t → ∃ u : ThrV, R[i]? = some u ∧ u.ks = t.ks.map CallV.pl := fun i t ht => by
    have e := congrArg (fun l => l[i]?) hR
    simp only [List.getElem?_map, ht, Option.map_some] at e
    cases hr : R[i]? with
    | none => rw [hr] at e; simp at e
    | some u => rw [hr] at e; simp at e; exact ⟨u, rfl, e⟩
  have len : ∀ (i : Nat) (t : ThrV), L[i]? = some t → cl i = t.ks.length := fun i t ht => by
    obtain ⟨u, hu, eu⟩ := key i t ht
    rw [E.len i u hu, eu]; simp
  have call : ∀ i j, i < R.length → j < cl i → ∃ (t u : ThrV) (q : CallV), L[i]? = some t ∧ R[i]? = some u ∧ t.ks[j]? = some q ∧ u.ks[j]? = some q.pl := fun i j hi hj => by
    have ht := List.getElem?_eq_getElem (show i < L.length by omega)
    obtain ⟨u, hu, eu⟩ := key i _ ht
    rw [len i _ ht] at hj
    have hq := List.getElem?_eq_getElem hj
    exact ⟨_, u, _, ht, hu, hq, by rw [eu, List.getElem?_map, hq]; rfl⟩
  refine ⟨ch, own, ⟨E.inv, V.ow (fun o a _ ha => by simp at ha), ?_, hl, len, fun i j hi hj => ?_, fun i j q hq => ?_⟩, E⟩
  · refine Pend.run _ h.inv (fun i j hi hj h4 => ?_)
    obtain ⟨t, u, q, ht, hu, hq, hq'⟩ := call i j hi hj
    rw [h.sg i j u q.pl hu hq'] at h4
    unfold CallV.start at h4
    split at h4
    · exact h4.elim
    · split at h4
      · exact absurd h4 (by show ¬ (0 = 4); omega)
      · split at h4
        · exact h4.elim
        · exact h4.elim
  · obtain ⟨t, u, q, ht, hu, hq, hq'⟩ := call i j hi hj
    exact ⟨q, by unfold callAt; rw [ht]; exact hq, E.sig i j u q.pl hu hq'⟩
  · unfold callAt at hq
    cases ht : L[i]? with
    | none => rw [ht] at hq; simp at hq
    | some t =>
      rw [ht] at hq
      exact hk t (List.mem_of_getElem? ht) q (List.mem_of_getElem? hq)
theorem Chg.falls2 {a b c : World} (h : Chg (fun _ => False) a b) (k : Chg (fun _ => False) b c) : Chg (fun _ => False) a c := h.trans k (fun _ _ x => x) (fun _ _ x => x)
set_option maxRecDepth 100000 in
theorem cs_doneA {W : World} {p : Nat} {t : TypeId} {l : List Value} {n : Nat} {b : Bool} (hp : Blk W p t l) (h11 : l[11]? = some (.int .u8 (n : Int))) (h13 : l[13]? = some (.bool b)) : Calls Try.prog 15 #[.pointer (some ⟨p, 0, none⟩)] W fun e W' => e = .returned (.bool (decide (n = 6) && b)) ∧ W' = W := by
  by_cases c : n = 6
  · subst c
    have := cs_done hp h11 h13
    simpa using this
  · have c11 : W.cell? ⟨p, 11, none⟩ = some (.int .u8 (n : Int)) := (hp.cell 11).trans h11
    have ci : ¬ (n : Int) = 6 := by omega
    have cb : ((n : Int) == 6) = false := by simpa using ci
    have e : (decide (n = 6) && b) = false := by simp [c]
    rw [e]
    clear hp h11 h13 e
    go_enter Try.func15, Try.ntmps15
    go_wp2_with fail
    all_goals go_ret
    all_goals exact ⟨by simp, rfl⟩
theorem FH.cas {X : World} {D : Nat → Prop} {p cam obj : Nat} {s : CasS} (F : FH X D p 95 cam obj (csL s) s.r.f) : ∃ lst, Blk X p 95 lst ∧ lst[11]? = some (.int .u8 (s.nx : Int)) ∧ lst[13]? = some (.bool s.sw) := by
  obtain ⟨lst, B, _, l7⟩ := F.cell
  exact ⟨lst, B, by rw [l7 4]; rfl, by rw [l7 6]; rfl⟩
/-- A Cas that was called: where it lies, and whether it was done. -/
theorem EndR.cas {W X : World} {m b : Nat} {L R : List ThrV} {sv : Value} {cl : Nat → Nat} {pv : Nat → Nat → Value} {qv : Nat → Value} {c : Cfg VP} {ch : Nat → List Nat} {own : Nat → Nat × Nat} {k : Nat} (h : EndR W X m b R sv cl pv qv c ch own k) (F : Fin L R R.length cl c ch own) {i j : Nat} {q : CallV} (hi : i < R.length) (hj : j < cl i) (hq : callAt L i j = some q) (hk : q.kind = 1) :
    ∃ p n sw lst, prOf (pv i j) = [.int .i64 1, .pointer none, .pointer (some ⟨p, 0, none⟩), .pointer none, .pointer none, .pointer none] ∧ Blk X p 95 lst ∧ lst[11]? = some (.int .u8 ((n : Nat) : Int)) ∧ lst[13]? = some (.bool sw) ∧ casD (c.σ i j) = (decide (n = 6) && sw) := by
  obtain ⟨s, hs, _⟩ := F.casOf hi hj hq hk
  obtain ⟨D, H⟩ := h.procs i j hi hj
  rw [hs] at H
  obtain ⟨p, e, FH, _⟩ := H
  obtain ⟨lst, B, l1, l2⟩ := FH.cas
  exact ⟨p, s.s.nx, s.s.sw, lst, by rw [e]; rfl, B, l1, l2, by rw [hs]; rfl⟩
/- Rows of anything. -/
def rowV (n : Nat) (f : Nat → Value) : List Value := (List.range n).map f
def IsR (W : World) (g n : Nat) (f : Nat → Value) (t : TypeId) : Prop := W.heap[g]? = some (.cells (rowV n f).toArray t (0, 0))
theorem IsR.cell {W : World} {g n : Nat} {f : Nat → Value} {t : TypeId} (h : IsR W g n f t) (i : Nat) (hi : i < n) : W.cell? ⟨g, i, none⟩ = some (f i) := by
  rw [cell_of h i]; simp [rowV, hi]
theorem IsR.set {W : World} {g n : Nat} {f : Nat → Value} {t : TypeId} (h : IsR W g n f t) (i : Nat) (hi : i < n) (v : Value) : IsR (W.setCell ⟨g, i, none⟩ v) g n (updN f i v) t := by
  unfold IsR
  rw [set_of h i v]
  have e : (rowV n f).toArray.setIfInBounds i v = (rowV n (updN f i v)).toArray := by
    apply Array.ext'
    simp only [List.setIfInBounds_toArray]
    apply List.ext_getElem?
    intro j
    rw [List.getElem?_set]
    by_cases e : i = j
    · subst e
      simp [rowV, hi, updN_same]
    · rw [if_neg e]
      simp only [rowV, List.getElem?_map]
      by_cases hj : j < n
      · rw [List.getElem?_range hj]
        simp [updN_other _ _ _ _ (fun z => e z.symm)]
      · rw [List.getElem?_eq_none (by simpa using hj)]; rfl
  rw [e]
theorem IsR.congr {W : World} {g n : Nat} {f f' : Nat → Value} {t : TypeId} (h : IsR W g n f t) (e : ∀ i, i < n → f i = f' i) : IsR W g n f' t := by
  unfold IsR at h ⊢
  rw [h]
  have : rowV n f = rowV n f' := List.map_congr_left (fun i hi => e i (List.mem_range.1 hi))
  rw [this]
/-- What is used: rows of bools in a row. -/
structure UB (Wv X : World) (T : Nat) (cl : Nat → Nat) (ub : Nat) (g : Nat → Nat) (n : Nat) (U : Nat → Nat → Bool) : Prop where
  chg : Chg (fun _ => False) Wv X
  out : IsR X ub T (fun i => if i < n then .slice (some ⟨g i, 0, none⟩) (cl i) (cl i) else .slice none 0 0) 46
  inn : ∀ i, i < n → IsR X (g i) (cl i) (fun j => .bool (U i j)) 4
  ge : Wv.heap.size ≤ ub
  gn : ∀ i, i < n → Wv.heap.size ≤ g i
  ap : ∀ i j, i < n → j < n → g i = g j → i = j
section
variable {Wv X Y : World} {T : Nat} {cl : Nat → Nat} {ub : Nat} {g : Nat → Nat} {n : Nat} {U : Nat → Nat → Bool}
theorem UB.quiet (h : UB Wv X T cl ub g n U) (c : Chg (fun _ => False) X Y) : UB Wv Y T cl ub g n U :=
  ⟨h.chg.falls2 c, (c.block ub (lt_of h.out) (fun x => x)).trans h.out, fun i hi => (c.block (g i) (lt_of (h.inn i hi)) (fun x => x)).trans (h.inn i hi), h.ge, h.gn, h.ap⟩
theorem UB.ne (h : UB Wv X T cl ub g n U) (i : Nat) (hi : i < n) : g i ≠ ub := fun e => by
  have a := h.inn i hi
  unfold IsR at a
  rw [e] at a
  have b := h.out
  unfold IsR at b
  rw [a] at b
  simp at b
theorem UB.mark (h : UB Wv X T cl ub g n U) {i j : Nat} (hi : i < n) (hj : j < cl i) : UB Wv (X.setCell ⟨g i, j, none⟩ (.bool true)) T cl ub g n (updB U i j) := by
  refine ⟨h.chg.setCell (p := ⟨g i, j, none⟩) (fun z => by simp only at z; have := h.gn i hi; omega) _, other_of h.out (fun e => h.ne i hi e.symm) _, fun p hp => ?_, h.ge, h.gn, h.ap⟩
  by_cases e : p = i
  · subst e
    refine ((h.inn p hi).set j hj (.bool true)).congr (fun q hq => ?_)
    by_cases e2 : q = j
    · subst e2; rw [updN_same]; simp [updB]
    · rw [updN_other _ _ _ _ e2]; simp [updB, e2]
  · refine IsR.congr (other_of (h.inn p hp) (fun e2 => e (h.ap p i hp hi e2)) _) (fun q hq => ?_)
    simp [updB, e]
theorem UB.add (h : UB Wv X T cl ub g n (fun _ _ => false)) (hn : n < T) : UB Wv ((X.alloc (.cells (rowV (cl n) (fun _ => .bool false)).toArray 4)).setCell ⟨ub, n, none⟩ (.slice (some ⟨X.heap.size, 0, none⟩) (cl n) (cl n))) T cl ub (updN g n X.heap.size) (n + 1) (fun _ _ => false) := by
  have c : Chg (fun _ => False) X (X.alloc (.cells (rowV (cl n) (fun _ => .bool false)).toArray 4)) := (Chg.refl _ _).alloc _
  have k := h.quiet c
  have sz := h.chg.size
  have nw : (X.alloc (.cells (rowV (cl n) (fun _ => .bool false)).toArray 4)).heap[X.heap.size]? = some (.cells (rowV (cl n) (fun _ => .bool false)).toArray 4 (0, 0)) := heap_alloc_new _ _
  have hub := lt_of h.out
  refine ⟨k.chg.setCell (p := ⟨ub, n, none⟩) (fun z => by simp only at z; have := h.ge; omega) _, ?_, fun i hi => ?_, h.ge, fun i hi => ?_, fun i j hi hj e => ?_⟩
  · refine (k.out.set n hn _).congr (fun i hi => ?_)
    by_cases e : i = n
    · subst e; rw [updN_same, if_pos (by omega), updN_same]
    · rw [updN_other _ _ _ _ e]
      by_cases e2 : i < n
      · rw [if_pos e2, if_pos (by omega), updN_other _ _ _ _ e]
      · rw [if_neg e2, if_neg (by omega)]
  · by_cases e : i = n
    · subst e; rw [updN_same]
      exact other_of nw (by omega) _
    · rw [updN_other _ _ _ _ e]
      exact other_of (k.inn i (by omega)) (k.ne i (by omega)) _
  · by_cases e : i = n
    · subst e; rw [updN_same]; omega
    · rw [updN_other _ _ _ _ e]; exact h.gn i (by omega)
  · by_cases e1 : i = n
    · by_cases e2 : j = n
      · omega
      · subst e1; rw [updN_same, updN_other _ _ _ _ e2] at e
        have := lt_of (h.inn j (by omega)); omega
    · by_cases e2 : j = n
      · subst e2; rw [updN_same, updN_other _ _ _ _ e1] at e
        have := lt_of (h.inn i (by omega)); omega
      · rw [updN_other _ _ _ _ e1, updN_other _ _ _ _ e2] at e
        exact h.ap i j (by omega) (by omega) e
end
theorem UB.first {W X : World} {T : Nat} (cl : Nat → Nat) (c : Chg (fun _ => False) W X) : UB W (X.alloc (.cells (rowV T (fun _ => .slice none 0 0)).toArray 46)) T cl X.heap.size (fun _ => 0) 0 (fun _ _ => false) :=
  ⟨c.falls2 ((Chg.refl _ _).alloc _), (show IsR _ _ _ _ _ from heap_alloc_new _ _).congr (fun i hi => by simp), fun i hi => by omega, c.size, fun i hi => by omega, fun i j hi => by omega⟩
theorem info_parts9 {E : TypeId} {z : Value} {s b : Nat} (h : (Try.prog.info? E).map (fun i => (i.zero, i.size, i.bytes)) = some (some z, s, b)) : ∃ i0, Try.prog.info? E = some i0 ∧ i0.zero = some z ∧ i0.size = s ∧ i0.bytes = b := by
  cases e : Try.prog.info? E with
  | none => rw [e] at h; simp at h
  | some i0 => rw [e] at h; simp at h; exact ⟨i0, rfl, h.1, h.2.1, h.2.2⟩
theorem make_rowV {T E : TypeId} {z : Value} {b : Nat} (hz : z.cells = #[z]) (hT : Try.prog.underlying T = some (.slice E)) (hE : (Try.prog.info? E).map (fun i => (i.zero, i.size, i.bytes)) = some (some z, 1, b)) (hb : b ≤ 100) (n : Nat) (hn : n ≤ 1048576) (u : World) :
    (Instr.makeSlice T (.int .i64 (n : Int)) (.int .i64 (n : Int))).run Try.prog u = .ok (.slice (some ⟨u.heap.size, 0, none⟩) n n) (u.alloc (.cells (rowV n (fun _ => z)).toArray E)) := by
  obtain ⟨i0, hi, hz0, hz1, hz2⟩ := info_parts9 hE
  have hbn : b * n ≤ 100 * 1048576 := Nat.mul_le_mul hb hn
  have hbi : (b : Int) * (n : Int) ≤ 281474976710656 := by
    rw [show (b : Int) * (n : Int) = ((b * n : Nat) : Int) by simp]; omega
  have h := run_make (P := Try.prog) u T E i0 z hT hi hz0 .i64 .i64 (n : Int) (n : Int) (by omega) (Int.le_refl _) (by rw [hz2]; exact hbi) (by omega)
  have e : madeCells #[z] n = (rowV n (fun _ => z)).toArray := by
    apply Array.ext'
    rw [toList_madeCells_one]
    simp [rowV, List.map_const']
  rw [← e]
  simpa [hz1, hz] using h
theorem make_bools (n : Nat) (hn : n ≤ 1048576) (u : World) : (Instr.makeSlice 46 (.int .i64 (n : Int)) (.int .i64 (n : Int))).run Try.prog u = .ok (.slice (some ⟨u.heap.size, 0, none⟩) n n) (u.alloc (.cells (rowV n (fun _ => .bool false)).toArray 4)) :=
  make_rowV rfl Try.underlying46 (by kernel_rfl) (by omega : 1 ≤ 100) n hn u
theorem make_boolss (n : Nat) (hn : n ≤ 1048576) (u : World) : (Instr.makeSlice 45 (.int .i64 (n : Int)) (.int .i64 (n : Int))).run Try.prog u = .ok (.slice (some ⟨u.heap.size, 0, none⟩) n n) (u.alloc (.cells (rowV n (fun _ => .slice none 0 0)).toArray 46)) :=
  make_rowV rfl Try.underlying45 (by kernel_rfl) (by omega : 24 ≤ 100) n hn u
set_option maxRecDepth 100000 in
set_option maxHeartbeats 8000000 in
theorem v_found (pt pp : Option Addr) (ct np cp : Nat) (L R : List ThrV) (o was now : Nat) (W0 Wv X : World) (m b : Nat) (ps : Option Addr) (c5 : Nat) (cl : Nat → Nat) (pv : Nat → Nat → Value) (qv : Nat → Value) (c : Cfg VP) (ch : Nat → List Nat) (own : Nat → Nat × Nat) (k ub : Nat) (g : Nat → Nat) (U : Nat → Nat → Bool)
    (hT : ThsAt X pt L) (hE : EndR W0 X m b R (.slice ps R.length c5) cl pv qv c ch own k) (hF : Fin L R R.length cl c ch own) (hU : UB Wv X R.length cl ub g R.length U) (hR : R.length ≤ 1048576) (hex : ∃ i j, i < R.length ∧ j < cl i ∧ mt L o was now i j ∧ U i j = false) :
    Calls Try.prog 14 #[.agg #[.slice pt L.length ct, .slice pp np cp], .slice ps R.length c5, .slice (some ⟨ub, 0, none⟩) R.length R.length, .int .u64 (o : Int), .int .u64 (was : Int), .int .u64 (now : Int)] X fun e Y => e = .returned (.bool true) ∧ ∃ i j, i < R.length ∧ j < cl i ∧ mt L o was now i j ∧ U i j = false ∧ UB Wv Y R.length cl ub g R.length (updB U i j) := by
  have HT := keepH hT
  have HE := keepH hE
  have HF := keepH hF
  have HU := keepH hU
  have HEx := keepH hex
  clear hT hE hF hU hex
  obtain ⟨X1, hX1⟩ : ∃ X1, X1 = X.alloc (.cells #[.slice pt L.length ct, .slice pp np cp] 25) := ⟨_, rfl⟩
  have C0 : Hid (Chg (fun _ => False) X X1) := by rw [hX1]; exact (Chg.refl _ _).alloc _
  obtain ⟨bx, hbx⟩ : ∃ bx, bx = X.heap.size := ⟨_, rfl⟩
  have hb0 : Hid (X1.heap[bx]? = some (.cells #[.slice pt L.length ct, .slice pp np cp] 25 (0, 0))) := by rw [hX1, hbx]; exact heap_alloc_new _ _
  have HL : Hid (R.length = L.length) := HF.out.tl
  go_enter Try.func14, Try.ntmps14
  go_wp2_with fail
  rw [← hX1, ← hbx]
  clear hX1 hbx
  go_loopw [13] (fun s wr => ∃ t : Nat, t ≤ 2 ∧ s = .int .i64 (t : Int) ∧ Hid (Chg (fun _ => False) X1 wr) ∧ Hid (t = 2 → ∀ i j, i < R.length → j < cl i → mt L o was now i j → U i j = true)) (fun s _ => 2 - (intOf s).toNat)
  case atStart => exact ⟨0, by omega, rfl, Chg.refl _ _, fun z => by omega⟩
  case round =>
    obtain ⟨t, ht, rfl, HC1, HN1⟩ := hrel
    by_cases hlt : t < 2
    · have t1 : (t : Int) < 2 := by omega
      go_wp2_with fail
      go_loopw [14] (fun s wi => ∃ i : Nat, i ≤ R.length ∧ s = .int .i64 (i : Int) ∧ Hid (Chg (fun _ => False) X1 wi) ∧ Hid (t = 1 → ∀ i' j, i' < i → j < cl i' → mt L o was now i' j → U i' j = true)) (fun s _ => R.length - (intOf s).toNat)
      case atStart => exact ⟨0, by omega, rfl, HC1, fun _ i' j h => by omega⟩
      case round =>
        obtain ⟨i, hi, rfl, HC2, HN2⟩ := hrel
        by_cases hi2 : i < R.length
        · have t2 : (i : Int) < (R.length : Int) := by omega
          obtain ⟨th, hth⟩ : ∃ th, L[i]? = some th := ⟨L[i]'(by have := HL.out; omega), List.getElem?_eq_getElem _⟩
          have hcl := HF.out.len i th hth
          have mth := List.mem_of_getElem? hth
          have hlen := HT.out.len th mth
          have HKt := keepH (HT.out.ks th mth)
          have HTh := keepH hth
          have HCl := keepH hcl
          obtain ⟨bk, off, hp, hbk, hc0⟩ := HT.out.row.resolve_left (fun e => by rw [e] at hth; simp at hth)
          subst hp
          have HCc : Hid (X.cell? ⟨bk, off + i, none⟩ = some (.slice th.p th.ks.length th.c)) := hc0 i th hth
          obtain ⟨g5, d5, es⟩ := slice_pos HE.out.out (by omega)
          simp only [Value.slice.injEq] at es
          obtain ⟨rfl, _, rfl⟩ := es
          obtain ⟨p12, c12, hq12⟩ := slice_of (HE.out.inn i hi2)
          have HQ12 := keepH hq12
          have HE2 := keepH (HE.out.quiet (C0.out.falls HC2.out))
          have z5 : wr.cell? ⟨g5, i, none⟩ = some (.slice p12 (cl i) c12) := by rw [← hq12]; exact HE2.out.cellQ hi2 rfl
          clear hc0 hth mth hbk hcl hq12
          go_wp2_with fail
          go_loopw [15] (fun s wj => ∃ j : Nat, j ≤ cl i ∧ s = .int .i64 (j : Int) ∧ Hid (Chg (fun _ => False) X1 wj) ∧ Hid (t = 1 → ∀ j', j' < j → mt L o was now i j' → U i j' = true)) (fun s _ => cl i - (intOf s).toNat)
          case atStart => exact ⟨0, by omega, rfl, HC2, fun _ j' h => by omega⟩
          case round =>
            obtain ⟨j, hj, rfl, HC3, HN3⟩ := hrel
            have Cx : Hid (Chg (fun _ => False) X wr) := C0.out.falls HC3.out
            have HE3 := keepH (HE.out.quiet Cx.out)
            have z5 : wr.cell? ⟨g5, i, none⟩ = some (.slice p12 (cl i) c12) := by rw [← HQ12.out]; exact HE3.out.cellQ hi2 rfl
            have hclL := HCl.out
            by_cases hj2 : j < cl i
            · have t3 : (j : Int) < (cl i : Int) := by omega
              obtain ⟨q, hq⟩ : ∃ q, th.ks[j]? = some q := ⟨th.ks[j]'(by omega), List.getElem?_eq_getElem _⟩
              have HCa : Hid (callAt L i j = some q) := by show callAt L i j = some q; unfold callAt; rw [HTh.out]; exact hq
              have hbx : wr.heap[bx]? = some (.cells #[.slice (some ⟨bk, off, none⟩) L.length ct, .slice pp np cp] 25 (0, 0)) := (HC3.out.block _ (lt_of hb0.out) (fun x => x)).trans hb0.out
              have y0 : wr.cell? ⟨bx, 0, none⟩ = some (.slice (some ⟨bk, off, none⟩) L.length ct) := cell_of hbx 0
              obtain ⟨bk2, off2, hp2, hb2, hcc⟩ := HKt.out.resolve_left (fun e => by rw [e] at hq; simp at hq)
              have hcell : ∀ (f : Nat) (u : Value), q.cells[f]? = some u → wr.cell? ⟨bk2, off2 + j * 4 + f, none⟩ = some u := fun f u hf => by rw [Nat.add_assoc]; exact cell_chg Cx.out (hcc j q hq f u hf) (fun x => x)
              have d0 : wr.cell? ⟨bk2, off2 + j * 4, none⟩ = some (.int .i64 q.kind) := hcell 0 _ rfl
              have d1 : wr.cell? ⟨bk2, off2 + j * 4 + 1, none⟩ = some (.int .u64 (q.obj : Int)) := hcell 1 _ rfl
              have d2 : wr.cell? ⟨bk2, off2 + j * 4 + 2, none⟩ = some (.int .u64 (q.a : Int)) := hcell 2 _ rfl
              have d3 : wr.cell? ⟨bk2, off2 + j * 4 + 3, none⟩ = some (.int .u64 (q.b : Int)) := hcell 3 _ rfl
              have zx : wr.cell? ⟨bk, off + i, none⟩ = some (.slice (some ⟨bk2, off2, none⟩) th.ks.length th.c) := by rw [← hp2]; exact cell_chg Cx.out HCc.out (fun x => x)
              have tL : (i : Int) < (L.length : Int) := by have := HL.out; omega
              have tk : (j : Int) < (th.ks.length : Int) := by omega
              obtain ⟨w6, hw6⟩ : ∃ w6, w6 = wr.alloc (.cells #[.int .i64 q.kind, .int .u64 (q.obj : Int), .int .u64 (q.a : Int), .int .u64 (q.b : Int)] 50) := ⟨_, rfl⟩
              obtain ⟨g9, hg9⟩ : ∃ g9, g9 = wr.heap.size := ⟨_, rfl⟩
              have c6 : Chg (fun _ => False) wr w6 := by rw [hw6]; exact (Chg.refl _ _).alloc _
              have HC6 : Hid (Chg (fun _ => False) X1 w6) := HC3.out.falls c6
              have HU6 := keepH (HU.out.quiet (Cx.out.falls c6))
              have HE6 := keepH (HE3.out.quiet c6)
              have nb : w6.heap[g9]? = some (.cells #[.int .i64 q.kind, .int .u64 (q.obj : Int), .int .u64 (q.a : Int), .int .u64 (q.b : Int)] 50 (0, 0)) := by rw [hw6, hg9]; exact heap_alloc_new _ _
              have HNb := keepH nb
              clear hbx hcell hcc hq hp2 hb2 c6 nb
              go_upto_region 11 with fail
              rw [← hw6, ← hg9]
              clear hw6 hg9 d0 d1 d2 d3 zx y0
              have o0 : w6.cell? ⟨g9, 0, none⟩ = some (.int .i64 q.kind) := cell_of HNb.out 0
              have o1 : w6.cell? ⟨g9, 1, none⟩ = some (.int .u64 (q.obj : Int)) := cell_of HNb.out 1
              have o2 : w6.cell? ⟨g9, 2, none⟩ = some (.int .u64 (q.a : Int)) := cell_of HNb.out 2
              have o3 : w6.cell? ⟨g9, 3, none⟩ = some (.int .u64 (q.b : Int)) := cell_of HNb.out 3
              have z6 : w6.cell? ⟨g5, i, none⟩ = some (.slice p12 (cl i) c12) := by rw [← HQ12.out]; exact HE6.out.cellQ hi2 rfl
              have u6 : w6.cell? ⟨ub, i, none⟩ = some (.slice (some ⟨g i, 0, none⟩) (cl i) (cl i)) := by have z := HU6.out.out.cell i hi2; rw [if_pos hi2] at z; exact z
              have v6 : w6.cell? ⟨g i, j, none⟩ = some (.bool (U i j)) := (HU6.out.inn i hi2).cell j hj2
              have f6 : w6.frozen? ⟨g i, j, none⟩ = false := free_of (HU6.out.inn i hi2) j
              by_cases m1 : q.kind = 1
              · rw [m1] at o0
                by_cases m2 : U i j = true
                · rw [m2] at v6
                  go_wp2_with fail
                  refine ⟨⟨j + 1, by omega, by simp, HC6, fun z j' hj' hm => ?_⟩, by simp [intOf]; omega⟩
                  by_cases e : j' = j
                  · subst e; exact m2
                  · exact HN3.out z j' (by omega) hm
                · have m2f : U i j = false := by simpa using m2
                  rw [m2f] at v6
                  obtain ⟨r, hr⟩ : ∃ r : Nat, r = q.obj % 3 := ⟨_, rfl⟩
                  have e1 : (q.obj : Int).tmod 3 = (r : Int) := by rw [Int.tmod_eq_emod_of_nonneg (by omega)]; omega
                  have e2 : (q.obj : Int) % 3 = (r : Int) := by omega
                  have HR := keepH hr
                  clear hr
                  by_cases m3 : r = o
                  · subst m3
                    by_cases m4 : q.a = was
                    · subst m4
                      by_cases m5 : q.b = now
                      · subst m5
                        by_cases m6 : q.a = q.b
                        · have m6b : ((q.a : Int) != (q.b : Int)) = false := by simp [m6]
                          have m6i : (q.a : Int) = (q.b : Int) := by omega
                          go_wp2_with fail
                          refine ⟨⟨j + 1, by omega, by simp, HC6, fun z j' hj' hm => ?_⟩, by simp [intOf]; omega⟩
                          by_cases e : j' = j
                          · subst e; exact ((hm.out HCa.out).2.2.2.2 m6).elim
                          · exact HN3.out z j' (by omega) hm
                        · have m6b : ((q.a : Int) != (q.b : Int)) = true := by simp; omega
                          have m6i : ¬ (q.a : Int) = (q.b : Int) := by omega
                          have HM : Hid (mt L r q.a q.b i j) := ⟨q, HCa.out, decide_eq_true ⟨m1, HR.out.symm, rfl, rfl, m6⟩⟩
                          obtain ⟨p, n, sw, lst, epr, hBl, l11, l13, hD⟩ := HE6.out.cas HF.out hi2 hj2 HCa.out m1
                          obtain ⟨gq, dq, e12⟩ := slice_pos (HE6.out.inn i hi2) (by omega)
                          rw [HQ12.out] at e12
                          simp only [Value.slice.injEq] at e12
                          obtain ⟨rfl, _, _⟩ := e12
                          have zp : w6.cell? ⟨gq, j * 6 + 2, none⟩ = some (.pointer (some ⟨p, 0, none⟩)) := HE6.out.cellP hi2 hj2 (by omega) HQ12.out _ (by rw [epr]; rfl)
                          obtain ⟨dn, hdn⟩ : ∃ dn, dn = (decide (n = 6) && sw) := ⟨_, rfl⟩
                          have HDn : Hid (Calls Try.prog 15 #[.pointer (some ⟨p, 0, none⟩)] w6 fun e W' => e = .returned (.bool dn) ∧ W' = w6) := by rw [hdn]; exact cs_doneA hBl l11 l13
                          clear epr hBl l11 l13 hD hdn
                          go_wp2_with fail
                          refine HDn.out.mono ?_
                          rintro e w7 ⟨rfl, rfl⟩
                          cases dn
                          · by_cases m7 : t = 1
                            · subst m7
                              go_wp2_with fail
                              go_ret
                              exact ⟨by simp, i, j, hi2, hj2, HM.out, m2f, HU6.out.mark hi2 hj2⟩
                            · have m7i : ¬ (t : Int) = 1 := by omega
                              have m7b : ((t : Int) == 1) = false := by simpa using m7i
                              go_wp2_with fail
                              refine ⟨⟨j + 1, by omega, by simp, HC6, fun z => (m7 z).elim⟩, by simp [intOf]; omega⟩
                          · go_wp2_with fail
                            go_ret
                            exact ⟨by simp, i, j, hi2, hj2, HM.out, m2f, HU6.out.mark hi2 hj2⟩
                      · have m5i : ¬ (q.b : Int) = (now : Int) := by omega
                        have m5b : ((q.b : Int) == (now : Int)) = false := by simpa using m5i
                        go_wp2_with fail
                        refine ⟨⟨j + 1, by omega, by simp, HC6, fun z j' hj' hm => ?_⟩, by simp [intOf]; omega⟩
                        by_cases e : j' = j
                        · subst e; exact (m5 (hm.out HCa.out).2.2.2.1).elim
                        · exact HN3.out z j' (by omega) hm
                    · have m4i : ¬ (q.a : Int) = (was : Int) := by omega
                      have m4b : ((q.a : Int) == (was : Int)) = false := by simpa using m4i
                      go_wp2_with fail
                      refine ⟨⟨j + 1, by omega, by simp, HC6, fun z j' hj' hm => ?_⟩, by simp [intOf]; omega⟩
                      by_cases e : j' = j
                      · subst e; exact (m4 (hm.out HCa.out).2.2.1).elim
                      · exact HN3.out z j' (by omega) hm
                  · have m3i : ¬ (r : Int) = (o : Int) := by omega
                    have m3b : ((r : Int) == (o : Int)) = false := by simpa using m3i
                    go_wp2_with fail
                    refine ⟨⟨j + 1, by omega, by simp, HC6, fun z j' hj' hm => ?_⟩, by simp [intOf]; omega⟩
                    by_cases e : j' = j
                    · subst e; exact (m3 (HR.out.trans (hm.out HCa.out).2.1)).elim
                    · exact HN3.out z j' (by omega) hm
              · have m1b : (q.kind == 1) = false := by simpa using m1
                go_wp2_with fail
                refine ⟨⟨j + 1, by omega, by simp, HC6, fun z j' hj' hm => ?_⟩, by simp [intOf]; omega⟩
                by_cases e : j' = j
                · subst e; exact (m1 (hm.out HCa.out).1).elim
                · exact HN3.out z j' (by omega) hm
            · have t3 : ¬ (j : Int) < (cl i : Int) := by omega
              obtain rfl : j = cl i := by omega
              go_wp2_with fail
              refine ⟨⟨i + 1, by omega, by simp, HC3, fun z i' j' h1 h2 hm => ?_⟩, by simp [intOf]; omega⟩
              by_cases e : i' = i
              · subst e; exact HN3.out z j' h2 hm
              · exact HN2.out z i' j' (by omega) h2 hm
        · have t2 : ¬ (i : Int) < (R.length : Int) := by omega
          obtain rfl : i = R.length := by omega
          go_wp2_with fail
          refine ⟨⟨t + 1, by omega, by simp, HC2, fun z i' j' h1 h2 hm => HN2.out (by omega) i' j' h1 h2 hm⟩, by simp [intOf]; omega⟩
    · exfalso
      obtain ⟨i, j, h1, h2, h3, h4⟩ := HEx.out
      have := HN1.out (by omega) i j h1 h2 h3
      rw [h4] at this
      simp at this
/-- How many versions the first objects have. -/
def sumL (ch : Nat → List Nat) : Nat → Nat
  | 0 => 0
  | n + 1 => sumL ch n + (ch (n + 2)).length
theorem sumL_le {next : Nat} {cs : List Nat} {ch : Nat → List Nat} (h : GI next cs ch) (o : Nat) (ho : o ≤ 3) : sumL ch o ≤ o * 16384 := by
  induction o with
  | zero => exact Nat.le_refl _
  | succ o ih =>
    have hIo : isO (o + 2) := ⟨by omega, by omega⟩
    have hn := h.nx
    have hl : (ch (o + 2)).length ≤ next := ch_len ((h.pw _ hIo).imp (fun r => r.1)) (fun a ha => by have := h.vs _ hIo a ha; omega)
    have := ih (by omega)
    show sumL ch o + (ch (o + 2)).length ≤ _
    omega
set_option maxRecDepth 100000 in
set_option maxHeartbeats 8000000 in
theorem chain_walk (pt pp : Option Addr) (ct cp : Nat) (L : List ThrV) (picks : List Int) (w : World) (hT : ThsAt w pt L) (hP : IReads w pp picks) (hn0 : L.length ≤ 1048576) (hn1 : picks.length ≤ 1048576) :
    Calls Try.prog 4 #[.agg #[.slice pt L.length ct, .slice pp picks.length cp]] w fun e w' => e = .returned (.bool true) ∧ Chg (fun _ => False) w w' := by
  have HT := keepH hT
  have HP := keepH hP
  clear hT hP
  obtain ⟨W0, hW0⟩ : ∃ W0, W0 = w.alloc (.cells #[.slice pt L.length ct, .slice pp picks.length cp] 25) := ⟨_, rfl⟩
  have C0 : Hid (Chg (fun _ => False) w W0) := by rw [hW0]; exact (Chg.refl _ _).alloc _
  have sz0 : Hid (W0.heap.size = w.heap.size + 1) := by rw [hW0]; simp [Hid]
  have hb0 : Hid (W0.heap[w.heap.size]? = some (.cells #[.slice pt L.length ct, .slice pp picks.length cp] 25 (0, 0))) := by rw [hW0]; exact heap_alloc_new _ _
  go_enter Try.func4, Try.ntmps4
  go_wp2_with fail
  rw [← hW0]
  clear hW0
  refine (mem_16k W0).mono ?_
  rintro e W1 ⟨rfl, M1, ⟨F, l, B1, hl1, hF1, nm1⟩, C1⟩
  have HM1 := keepH M1
  have HB1 := keepH B1
  have HF1 := keepH hF1
  have HN1 := keepH nm1
  have HC1 := keepH C1
  have HL1 := keepH hl1
  clear M1 B1 hF1 nm1 C1 hl1
  obtain ⟨m, hm⟩ : ∃ m, m = W0.heap.size + 1 := ⟨_, rfl⟩
  obtain ⟨b, hb⟩ : ∃ b, b = W0.heap.size := ⟨_, rfl⟩
  have Hm : Hid (m = w.heap.size + 2) := by show m = _; have := sz0.out; omega
  rw [← hm, ← hb] at HM1
  rw [← hm] at HN1
  rw [← hb] at HB1
  rw [← hm]
  clear hm hb
  go_wp2_with fail
  refine (vc_live _).mono ?_
  rintro e W2 ⟨rfl, C2⟩
  have HM2 := keepH (HM1.out.chg C2 (fun x => x))
  have HB2 := keepH (HB1.out.chg C2 (fun _ _ x => x))
  have HC2 : Hid (Chg (fun _ => False) W0 W2) := HC1.out.falls C2
  have hb2 : Hid (W2.heap[w.heap.size]? = some (.cells #[.slice pt L.length ct, .slice pp picks.length cp] 25 (0, 0))) := (HC2.out.block _ (lt_of hb0.out) (fun x => x)).trans hb0.out
  have x0 : W2.cell? ⟨w.heap.size, 0, none⟩ = some (.slice pt L.length ct) := cell_of hb2.out 0
  have x1 : W2.cell? ⟨w.heap.size, 1, none⟩ = some (.slice pp picks.length cp) := cell_of hb2.out 1
  clear C2 HM1 HB1
  go_wp2_with fail
  refine (v_honest pt pp ct picks.length cp L W2 (HT.out.chg (C0.out.falls HC2.out)) hn0).mono ?_
  rintro e W3 ⟨rfl, C3⟩
  have HC3 : Hid (Chg (fun _ => False) W0 W3) := HC2.out.falls C3
  have HM3 := keepH (HM2.out.chg C3 (fun x => x))
  have HB3 := keepH (HB2.out.chg C3 (fun _ _ x => x))
  have hb3 : Hid (W3.heap[w.heap.size]? = some (.cells #[.slice pt L.length ct, .slice pp picks.length cp] 25 (0, 0))) := (HC3.out.block _ (lt_of hb0.out) (fun x => x)).trans hb0.out
  have y0 : W3.cell? ⟨w.heap.size, 0, none⟩ = some (.slice pt L.length ct) := cell_of hb3.out 0
  have y1 : W3.cell? ⟨w.heap.size, 1, none⟩ = some (.slice pp picks.length cp) := cell_of hb3.out 1
  clear C3 HM2 HB2 x0 x1 hb2
  cases hh : honB L
  · go_wp2_with fail
    go_ret
    exact ⟨by simp, C0.out.falls HC3.out⟩
  · obtain ⟨hk, h64, h4k⟩ := honB_out hh
    go_wp2_with fail
    have s0 := sz0.out
    refine (v_run pt pp ct cp L picks picks W0 W3 m b 5 F [0, 1, 0, 0, 0] l (fun _ => []) HC3.out (HT.out.chg C0.out) (HP.out.chg C0.out) (fun i x h => h) hn1 HM3.out HB3.out (by rw [HL1.out]; omega) HF1.out (by have := Hm.out; omega) HN1.out hk h64 h4k GI.first).mono ?_
    rintro e W4 ⟨sv, r, R, cl, vb, pv, c0, Z, qv, rfl, hR, E⟩
    obtain ⟨ch, own, Fn, E4⟩ := E.fin hR hk
    obtain ⟨c, hc⟩ : ∃ c, c = c0.run vcK 16384 R.length cl (picks.take picks.length) := ⟨_, rfl⟩
    rw [← hc] at Fn E4
    have HE := keepH E4
    have HFn := keepH Fn
    have HRl := keepH (placed_len hR).1
    have hRb : R.length ≤ 64 := by have := HRl.out; omega
    have HCb : Hid (∀ i, i < R.length → cl i ≤ 4096) := fun i hi => by
      have ht := List.getElem?_eq_getElem (show i < L.length by have := HRl.out; omega)
      rw [HFn.out.len i _ ht]
      exact h4k _ (List.mem_of_getElem? ht)
    clear E hc hR E4 hk h64 h4k y0 y1 Fn
    obtain ⟨p5, c5, hsv⟩ := slice_of HE.out.out
    subst hsv
    have HTc : Hid (∀ X, Chg (fun _ => False) W0 X → ThsAt X pt L) := fun X h => (HT.out.chg C0.out).chg h
    go_wp2_with fail
    go_loopw [7, 8] (fun s7 s8 wr => ∃ o : Nat, o ≤ 3 ∧ s7 = .int .i64 ((sumL ch o : Nat) : Int) ∧ s8 = .int .u64 (o : Int) ∧ Hid (EndR W0 wr m b R (.slice p5 R.length c5) cl pv qv c ch own picks.length)) (fun _ s8 _ => 3 - (intOf s8).toNat)
    case atStart => exact ⟨0, by omega, rfl, rfl, HE⟩
    case round =>
      obtain ⟨o, ho3, rfl, rfl, HE1⟩ := hrel
      by_cases hlt : o < 3
      · have t1 : (o : Int) < 3 := by omega
        obtain ⟨o2, ho2⟩ : ∃ o2, o2 = o + 2 := ⟨_, rfl⟩
        have k2 : IntKind.u64.wrap ((o : Int) + 2) = (o2 : Int) := by rw [IntKind.wrap_u64]; omega
        have k3 : (o : Int) + 2 = (o2 : Int) := by omega
        have hIo : isO (o + 2) := ⟨by omega, by omega⟩
        obtain ⟨F6, l6, B6, _⟩ := HE1.out.bank
        have HB6 := keepH B6
        have HO2 := keepH ho2
        have ho64 : o2 < 18446744073709551616 := by omega
        clear B6 ho2
        go_wp2_with fail
        refine (versions_any m b 16384 c.next o2 F6 c.cs l6 _ HE1.out.mem HB6.out ho64 (by omega)).mono ?_
        rintro e W7 ⟨K, u, rfl, St7, V7⟩
        rw [HO2.out] at St7 V7
        have hK : K ≤ 16384 := St7.1
        have HS7 := keepH St7
        have HKl : Hid (K = (ch (o + 2)).length) := (HFn.out.inv.gi.stops hIo St7).1
        obtain ⟨pu, cu, hu⟩ := slice_of V7.row
        subst hu
        have HRV := keepH V7.row
        have HE7 := keepH (HE1.out.quiet V7.chg)
        have mk1 := make_boolss R.length (by omega)
        have HUf : Hid (UB W7 (W7.alloc (.cells (rowV R.length (fun _ => .slice none 0 0)).toArray 46)) R.length cl W7.heap.size (fun _ => 0) 0 (fun _ _ => false)) := UB.first cl (Chg.refl _ _)
        obtain ⟨ub, hub⟩ : ∃ ub, ub = W7.heap.size := ⟨_, rfl⟩
        obtain ⟨W8, hW8⟩ : ∃ W8, W8 = W7.alloc (.cells (rowV R.length (fun _ => .slice none 0 0)).toArray 46) := ⟨_, rfl⟩
        rw [← hub, ← hW8] at HUf
        clear St7 V7 HB6
        go_wp2_with fail
        rw [← hW8, ← hub]
        clear hW8 hub mk1
        go_loopw [11] (fun s11 wr => ∃ (i : Nat) (g : Nat → Nat), i ≤ R.length ∧ s11 = .int .i64 (i : Int) ∧ Hid (UB W7 wr R.length cl ub g i (fun _ _ => false))) (fun s11 _ => R.length - (intOf s11).toNat)
        case atStart => exact ⟨0, _, by omega, rfl, HUf⟩
        case round =>
          obtain ⟨i, g, hi, rfl, HU⟩ := hrel
          by_cases hi2 : i < R.length
          · have t2 : (i : Int) < (R.length : Int) := by omega
            obtain ⟨g5, d5, es⟩ := slice_pos HE7.out.out (by omega)
            simp only [Value.slice.injEq] at es
            obtain ⟨rfl, _, rfl⟩ := es
            obtain ⟨p12, c12, hq12⟩ := slice_of (HE7.out.inn i hi2)
            have z5 : wr.cell? ⟨g5, i, none⟩ = some (.slice p12 (cl i) c12) := by rw [← hq12]; exact (HE7.out.quiet HU.out.chg).cellQ hi2 rfl
            have mk2 := make_bools (cl i) (by have := HCb.out i hi2; omega)
            have uo : (wr.alloc (.cells (rowV (cl i) (fun _ => .bool false)).toArray 4)).cell? ⟨ub, i, none⟩ = some (.slice none 0 0) := by have z := (HU.out.quiet ((Chg.refl _ _).alloc (.cells (rowV (cl i) (fun _ => .bool false)).toArray 4))).out.cell i hi2; rw [if_neg (Nat.lt_irrefl i)] at z; exact z
            have uf : (wr.alloc (.cells (rowV (cl i) (fun _ => .bool false)).toArray 4)).frozen? ⟨ub, i, none⟩ = false := free_of (HU.out.quiet ((Chg.refl _ _).alloc (.cells (rowV (cl i) (fun _ => .bool false)).toArray 4))).out i
            have HUn := keepH (HU.out.add hi2)
            clear hq12
            go_wp2_with fail
            exact ⟨⟨i + 1, _, by omega, by simp, HUn⟩, by simp [intOf]; omega⟩
          · have t2 : ¬ (i : Int) < (R.length : Int) := by omega
            obtain rfl : i = R.length := by omega
            have wk : IntKind.i64.wrap ((K : Int) - 1) = (K : Int) - 1 := by rw [IntKind.wrap_i64]; omega
            have HAs := keepH (HFn.out.asg hlt HS7.out)
            obtain ⟨was, hwas⟩ : ∃ was, was = wasN c.cs (o + 2) K := ⟨_, rfl⟩
            obtain ⟨val, hval⟩ : ∃ val : Nat → Nat, val = fun n => cellN c.cs (hN c.cs (o + 2) n) := ⟨_, rfl⟩
            rw [← hwas, ← hval] at HAs
            have HWas : Hid (∀ n, was n = if n + 1 < K then val (n + 1) else 0) := fun n => by rw [hwas, hval]; rfl
            have HVal : Hid (∀ n, val n = cellN c.cs (hN c.cs (o + 2) n)) := fun n => by rw [hval]
            clear hwas hval
            obtain ⟨sL, hsL⟩ : ∃ s, s = sumL ch o := ⟨_, rfl⟩
            have HsL : Hid (sumL ch (o + 1) = sL + K) := by rw [hsL, HKl.out]; rfl
            have hsb : sL ≤ 3 * 16384 := by rw [hsL]; exact Nat.le_trans (sumL_le HFn.out.inv.gi o ho3) (by omega)
            rw [← hsL]
            clear hsL
            go_wp2_with fail
            go_loopw [7, 12] (fun s7 s12 wr => ∃ (r : Nat) (U : Nat → Nat → Bool) (wA : Nat → Nat × Nat), r ≤ K ∧ s7 = .int .i64 ((sL + (K - r) : Nat) : Int) ∧ s12 = .int .i64 ((r : Int) - 1) ∧ Hid (Asg L R.length cl o was val U r wA) ∧ Hid (UB W7 wr R.length cl ub g R.length U)) (fun _ s12 _ => (intOf s12 + 1).toNat)
            case atStart => exact ⟨K, _, _, Nat.le_refl _, by simp, rfl, HAs, HU⟩
            case round =>
              obtain ⟨r, U, wA, hr, rfl, rfl, HA, HUr⟩ := hrel
              by_cases hr2 : 0 < r
              · obtain ⟨n, rfl⟩ : ∃ n, r = n + 1 := ⟨r - 1, by omega⟩
                obtain ⟨gv, dv, ev⟩ := slice_pos HRV.out (by omega)
                simp only [Value.slice.injEq] at ev
                obtain ⟨rfl, _, rfl⟩ := ev
                have HLvA : Hid (∀ wd n, n < K → Chg (fun _ => False) W7 wd → wd.cell? ⟨gv, n * 2, none⟩ = some (.int .u64 (val n : Int))) := fun wd n hn h => by
                  have RV := row_kept (W' := wd) HRV.out (fun g e => h.block g (row_lt HRV.out g e) (fun x => x))
                  rw [HVal.out n, Nat.mul_comm n 2]
                  exact ver_cell RV _ _ (verRow_get c.cs (o + 2) K n hn).1
                have HLv : Hid (∀ wd, Chg (fun _ => False) W7 wd → wd.cell? ⟨gv, n * 2, none⟩ = some (.int .u64 (val n : Int))) := fun wd h => HLvA.out wd n (by omega) h
                have HBx : Hid (∀ wd i v, Chg (fun _ => False) W7 wd → (#[.slice pt L.length ct, .slice pp picks.length cp] : Array Value)[i]? = some v → wd.cell? ⟨w.heap.size, i, none⟩ = some v) := fun wd i v h hv => by
                  rw [cell_of (((HE7.out.quiet h).chg.block _ (lt_of hb0.out) (fun x => x)).trans hb0.out) i]; exact hv
                have HFd : Hid (∀ wx (x : Int), x = (was n : Int) → Chg (fun _ => False) wr wx → Calls Try.prog 14 #[.agg #[.slice pt L.length ct, .slice pp picks.length cp], .slice p5 R.length c5, .slice (some ⟨ub, 0, none⟩) R.length R.length, .int .u64 (o : Int), .int .u64 x, .int .u64 (val n : Int)] wx fun e Y => e = .returned (.bool true) ∧ ∃ i j, i < R.length ∧ j < cl i ∧ mt L o (was n) (val n) i j ∧ U i j = false ∧ UB W7 Y R.length cl ub g R.length (updB U i j)) := fun wx x hx h => by
                  subst hx
                  exact v_found pt pp ct picks.length cp L R o (was n) (val n) W0 W7 wx m b p5 c5 cl pv qv c ch own picks.length ub g U (HTc.out _ (HE7.out.quiet (HUr.out.chg.falls h)).chg) (HE7.out.quiet (HUr.out.chg.falls h)) HFn.out (HUr.out.quiet h) (by omega) ⟨_, _, (HA.out.rng n (by omega)).1, (HA.out.rng n (by omega)).2, HA.out.mt n (by omega), HA.out.free n (by omega)⟩
                obtain ⟨n1, hn1⟩ : ∃ n1, n1 = n + 1 := ⟨_, rfl⟩
                have e1 : ((n + 1 : Nat) : Int) - 1 = (n : Int) := by omega
                have e2 : IntKind.i64.wrap ((n : Int) + 1) = (n1 : Int) := by rw [IntKind.wrap_i64]; omega
                have e3 : (n : Int) + 1 = (n1 : Int) := by omega
                have e4 : IntKind.i64.wrap ((n : Int) - 1) = (n : Int) - 1 := by rw [IntKind.wrap_i64]; omega
                have tn0 : (0 : Int) ≤ (n : Int) := by omega
                have tnK : (n : Int) < (K : Int) := by omega
                obtain ⟨s0, hs0⟩ : ∃ s0, s0 = sL + (K - (n + 1)) := ⟨_, rfl⟩
                have HS0 : Hid (s0 + 1 = sL + (K - n)) := by show _ = _; omega
                have hs0b : s0 ≤ 100000 := by omega
                rw [e1, ← hs0]
                have HWn := keepH (HWas.out n)
                rw [← hn1] at HWn
                have HN1 := keepH hn1
                clear hs0 e1 hn1
                have hS0 : Chg (fun _ => False) W7 wr := HUr.out.chg
                have hS0 : Chg (fun _ => False) W7 wr.drew := hS0.drew
                by_cases hnK : n1 < K
                · have tnK1 : (n1 : Int) < (K : Int) := by omega
                  have HXw : Hid ((val n1 : Int) = (was n : Int)) := by rw [HWn.out, if_pos hnK]; rfl
                  have yv1 : wr.cell? ⟨gv, n1 * 2, none⟩ = some (.int .u64 (val n1 : Int)) := HLvA.out wr n1 hnK HUr.out.chg
                  go_upto_region 25 with fail
                  go_cut [95] from 84 to 94 (fun s95 wz => s95 = .bool false ∧ ∃ U' w', Hid (Asg L R.length cl o was val U' n w') ∧ Hid (UB W7 wz R.length cl ub g R.length U'))
                  case first =>
                    refine wp_region_held_drew (S := (fun wd => Chg (fun _ => False) W7 wd)) (by kernel_rfl) (hS0) ?_
                    intro hHeld
                    refine wpAnyH_take (i := 0) (v := ?_) rfl (by kernel_rfl) (by kernel_rfl) (by kernel_rfl) (fun _ _ _ h => h) (Or.inl ⟨by rfl, ?_⟩) hHeld ?_
                    rotate_left
                    · intro w hSw
                      (try dsimp only at hSw)
                      have y0 := HBx.out _ 0 _ hSw rfl
                      have y1 := HBx.out _ 1 _ hSw rfl
                      go_simp
                      try with_reducible rfl
                    (try simp only [Act.put]); (try simp only [List.setIfInBounds_toArray]); (repeat (first | simp only [List.set_cons_succ] | simp only [List.set_cons_zero]))
                    refine wpAnyH_take (i := 1) (v := ?_) rfl (by kernel_rfl) (by kernel_rfl) (by kernel_rfl) (fun _ _ _ h => h) (Or.inl ⟨by rfl, ?_⟩) hHeld ?_
                    rotate_left
                    · intro w hSw
                      (try dsimp only at hSw)
                      go_simp
                      try with_reducible rfl
                    (try simp only [Act.put]); (try simp only [List.setIfInBounds_toArray]); (repeat (first | simp only [List.set_cons_succ] | simp only [List.set_cons_zero]))
                    refine wpAnyH_take (i := 2) (v := ?_) rfl (by kernel_rfl) (by kernel_rfl) (by kernel_rfl) (fun _ _ _ h => h) (Or.inl ⟨by rfl, ?_⟩) hHeld ?_
                    rotate_left
                    · intro w hSw
                      (try dsimp only at hSw)
                      go_simp
                      try with_reducible rfl
                    (try simp only [Act.put]); (try simp only [List.setIfInBounds_toArray]); (repeat (first | simp only [List.set_cons_succ] | simp only [List.set_cons_zero]))
                    refine wpAnyH_take (i := 3) (v := ?_) rfl (by kernel_rfl) (by kernel_rfl) (by kernel_rfl) (fun _ _ _ h => h) (Or.inl ⟨by rfl, ?_⟩) hHeld ?_
                    rotate_left
                    · intro w hSw
                      (try dsimp only at hSw)
                      go_simp
                      try with_reducible rfl
                    (try simp only [Act.put]); (try simp only [List.setIfInBounds_toArray]); (repeat (first | simp only [List.set_cons_succ] | simp only [List.set_cons_zero]))
                    refine wpAnyH_take (i := 4) (v := ?_) rfl (by kernel_rfl) (by kernel_rfl) (by kernel_rfl) (fun _ _ _ h => h) (Or.inl ⟨by rfl, ?_⟩) hHeld ?_
                    rotate_left
                    · intro w hSw
                      (try dsimp only at hSw)
                      go_simp
                      try with_reducible rfl
                    (try simp only [Act.put]); (try simp only [List.setIfInBounds_toArray]); (repeat (first | simp only [List.set_cons_succ] | simp only [List.set_cons_zero]))
                    refine wpAnyH_take (i := 5) (v := ?_) rfl (by kernel_rfl) (by kernel_rfl) (by kernel_rfl) (fun _ _ _ h => h) (Or.inl ⟨by rfl, ?_⟩) hHeld ?_
                    rotate_left
                    · intro w hSw
                      (try dsimp only at hSw)
                      go_simp
                      try with_reducible rfl
                    (try simp only [Act.put]); (try simp only [List.setIfInBounds_toArray]); (repeat (first | simp only [List.set_cons_succ] | simp only [List.set_cons_zero]))
                    refine wpAnyH_take (i := 6) (v := ?_) rfl (by kernel_rfl) (by kernel_rfl) (by kernel_rfl) (fun _ _ _ h => h) (Or.inl ⟨by rfl, ?_⟩) hHeld ?_
                    rotate_left
                    · intro w hSw
                      (try dsimp only at hSw)
                      go_simp
                      try with_reducible rfl
                    (try simp only [Act.put]); (try simp only [List.setIfInBounds_toArray]); (repeat (first | simp only [List.set_cons_succ] | simp only [List.set_cons_zero]))
                    refine wpAnyH_take (i := 7) (v := ?_) rfl (by kernel_rfl) (by kernel_rfl) (by kernel_rfl) (fun _ _ _ h => h) (Or.inl ⟨by rfl, ?_⟩) hHeld ?_
                    rotate_left
                    · intro w hSw
                      (try dsimp only at hSw)
                      go_simp
                      try with_reducible rfl
                    (try simp only [Act.put]); (try simp only [List.setIfInBounds_toArray]); (repeat (first | simp only [List.set_cons_succ] | simp only [List.set_cons_zero]))
                    refine wpAnyH_take (i := 8) (v := ?_) rfl (by kernel_rfl) (by kernel_rfl) (by kernel_rfl) (fun _ _ _ h => h) (Or.inl ⟨by rfl, ?_⟩) hHeld ?_
                    rotate_left
                    · intro w hSw
                      (try dsimp only at hSw)
                      go_simp
                      try with_reducible rfl
                    (try simp only [Act.put]); (try simp only [List.setIfInBounds_toArray]); (repeat (first | simp only [List.set_cons_succ] | simp only [List.set_cons_zero]))
                    refine wpAnyH_take (i := 9) (v := ?_) rfl (by kernel_rfl) (by kernel_rfl) (by kernel_rfl) (fun _ _ _ h => h) (Or.inl ⟨by rfl, ?_⟩) hHeld ?_
                    rotate_left
                    · intro w hSw
                      (try dsimp only at hSw)
                      have yv := HLv.out _ hSw
                      go_simp
                      try with_reducible rfl
                    (try simp only [Act.put]); (try simp only [List.setIfInBounds_toArray]); (repeat (first | simp only [List.set_cons_succ] | simp only [List.set_cons_zero]))
                    refine wpAnyH_ready (rs := [10]) (by kernel_rfl) (by simp) ?_
                    refine AllReadyH.cons rfl (fun KK hKK => ?_) AllReadyH.nil
                    go_simp
                    go_at_call 14
                    refine (HFd.out _ _ HXw.out (by first | exact Chg.refl _ _ | exact (Chg.refl _ _).drew)).mono ?_
                    rintro e w9 ⟨rfl, i9, j9, e1, e2, e3, e4, HU9⟩
                    have hS9 : Chg (fun _ => False) W7 w9 := HU9.chg
                    have HU9 := keepH HU9
                    have HE3 := keepH e3
                    have HE4 := keepH e4
                    clear e3 e4
                    try go_wp2_with fail
                    refine hKK.out _ _ ?_ (fun hHeld => ?_)
                    · exact hS9
                    clear hKK KK
                    (try simp only [Act.put]); (try simp only [List.setIfInBounds_toArray]); (repeat (first | simp only [List.set_cons_succ] | simp only [List.set_cons_zero]))
                    refine wpAnyH_take (i := 11) (v := ?_) rfl (by kernel_rfl) (by kernel_rfl) (by kernel_rfl) (fun _ _ _ h => h) (Or.inl ⟨by rfl, ?_⟩) hHeld ?_
                    rotate_left
                    · intro w hSw
                      (try dsimp only at hSw)
                      go_simp
                      try with_reducible rfl
                    (try simp only [Act.put]); (try simp only [List.setIfInBounds_toArray]); (repeat (first | simp only [List.set_cons_succ] | simp only [List.set_cons_zero]))
                    refine wpAnyH_done (by kernel_rfl) ?_ _
                    go_simp
                    try go_wp2_with fail
                    go_meet
                    obtain ⟨w', A'⟩ := HA.out.next HE3.out HE4.out
                    exact ⟨by simp, _, w', keepH A', HU9⟩
                  case rest =>
                    obtain ⟨rfl, U', w', HA', HU'⟩ := hcut
                    go_wp2_with fail
                    refine ⟨⟨n, U', w', by omega, ?_, rfl, HA', HU'⟩, by simp [intOf]⟩
                    rw [← HS0.out]; simp
                · have tnK1 : ¬ (n1 : Int) < (K : Int) := by omega
                  have HXw : Hid ((0 : Int) = (was n : Int)) := by rw [HWn.out, if_neg hnK]; rfl
                  go_upto_region 25 with fail
                  go_cut [95] from 84 to 94 (fun s95 wz => s95 = .bool false ∧ ∃ U' w', Hid (Asg L R.length cl o was val U' n w') ∧ Hid (UB W7 wz R.length cl ub g R.length U'))
                  case first =>
                    refine wp_region_held_drew (S := (fun wd => Chg (fun _ => False) W7 wd)) (by kernel_rfl) (hS0) ?_
                    intro hHeld
                    refine wpAnyH_take (i := 0) (v := ?_) rfl (by kernel_rfl) (by kernel_rfl) (by kernel_rfl) (fun _ _ _ h => h) (Or.inl ⟨by rfl, ?_⟩) hHeld ?_
                    rotate_left
                    · intro w hSw
                      (try dsimp only at hSw)
                      have y0 := HBx.out _ 0 _ hSw rfl
                      have y1 := HBx.out _ 1 _ hSw rfl
                      go_simp
                      try with_reducible rfl
                    (try simp only [Act.put]); (try simp only [List.setIfInBounds_toArray]); (repeat (first | simp only [List.set_cons_succ] | simp only [List.set_cons_zero]))
                    refine wpAnyH_take (i := 1) (v := ?_) rfl (by kernel_rfl) (by kernel_rfl) (by kernel_rfl) (fun _ _ _ h => h) (Or.inl ⟨by rfl, ?_⟩) hHeld ?_
                    rotate_left
                    · intro w hSw
                      (try dsimp only at hSw)
                      go_simp
                      try with_reducible rfl
                    (try simp only [Act.put]); (try simp only [List.setIfInBounds_toArray]); (repeat (first | simp only [List.set_cons_succ] | simp only [List.set_cons_zero]))
                    refine wpAnyH_take (i := 2) (v := ?_) rfl (by kernel_rfl) (by kernel_rfl) (by kernel_rfl) (fun _ _ _ h => h) (Or.inl ⟨by rfl, ?_⟩) hHeld ?_
                    rotate_left
                    · intro w hSw
                      (try dsimp only at hSw)
                      go_simp
                      try with_reducible rfl
                    (try simp only [Act.put]); (try simp only [List.setIfInBounds_toArray]); (repeat (first | simp only [List.set_cons_succ] | simp only [List.set_cons_zero]))
                    refine wpAnyH_take (i := 3) (v := ?_) rfl (by kernel_rfl) (by kernel_rfl) (by kernel_rfl) (fun _ _ _ h => h) (Or.inl ⟨by rfl, ?_⟩) hHeld ?_
                    rotate_left
                    · intro w hSw
                      (try dsimp only at hSw)
                      go_simp
                      try with_reducible rfl
                    (try simp only [Act.put]); (try simp only [List.setIfInBounds_toArray]); (repeat (first | simp only [List.set_cons_succ] | simp only [List.set_cons_zero]))
                    refine wpAnyH_take (i := 4) (v := ?_) rfl (by kernel_rfl) (by kernel_rfl) (by kernel_rfl) (fun _ _ _ h => h) (Or.inl ⟨by rfl, ?_⟩) hHeld ?_
                    rotate_left
                    · intro w hSw
                      (try dsimp only at hSw)
                      go_simp
                      try with_reducible rfl
                    (try simp only [Act.put]); (try simp only [List.setIfInBounds_toArray]); (repeat (first | simp only [List.set_cons_succ] | simp only [List.set_cons_zero]))
                    refine wpAnyH_take (i := 5) (v := ?_) rfl (by kernel_rfl) (by kernel_rfl) (by kernel_rfl) (fun _ _ _ h => h) (Or.inl ⟨by rfl, ?_⟩) hHeld ?_
                    rotate_left
                    · intro w hSw
                      (try dsimp only at hSw)
                      go_simp
                      try with_reducible rfl
                    (try simp only [Act.put]); (try simp only [List.setIfInBounds_toArray]); (repeat (first | simp only [List.set_cons_succ] | simp only [List.set_cons_zero]))
                    refine wpAnyH_take (i := 6) (v := ?_) rfl (by kernel_rfl) (by kernel_rfl) (by kernel_rfl) (fun _ _ _ h => h) (Or.inl ⟨by rfl, ?_⟩) hHeld ?_
                    rotate_left
                    · intro w hSw
                      (try dsimp only at hSw)
                      go_simp
                      try with_reducible rfl
                    (try simp only [Act.put]); (try simp only [List.setIfInBounds_toArray]); (repeat (first | simp only [List.set_cons_succ] | simp only [List.set_cons_zero]))
                    refine wpAnyH_take (i := 7) (v := ?_) rfl (by kernel_rfl) (by kernel_rfl) (by kernel_rfl) (fun _ _ _ h => h) (Or.inl ⟨by rfl, ?_⟩) hHeld ?_
                    rotate_left
                    · intro w hSw
                      (try dsimp only at hSw)
                      go_simp
                      try with_reducible rfl
                    (try simp only [Act.put]); (try simp only [List.setIfInBounds_toArray]); (repeat (first | simp only [List.set_cons_succ] | simp only [List.set_cons_zero]))
                    refine wpAnyH_take (i := 8) (v := ?_) rfl (by kernel_rfl) (by kernel_rfl) (by kernel_rfl) (fun _ _ _ h => h) (Or.inl ⟨by rfl, ?_⟩) hHeld ?_
                    rotate_left
                    · intro w hSw
                      (try dsimp only at hSw)
                      go_simp
                      try with_reducible rfl
                    (try simp only [Act.put]); (try simp only [List.setIfInBounds_toArray]); (repeat (first | simp only [List.set_cons_succ] | simp only [List.set_cons_zero]))
                    refine wpAnyH_take (i := 9) (v := ?_) rfl (by kernel_rfl) (by kernel_rfl) (by kernel_rfl) (fun _ _ _ h => h) (Or.inl ⟨by rfl, ?_⟩) hHeld ?_
                    rotate_left
                    · intro w hSw
                      (try dsimp only at hSw)
                      have yv := HLv.out _ hSw
                      go_simp
                      try with_reducible rfl
                    (try simp only [Act.put]); (try simp only [List.setIfInBounds_toArray]); (repeat (first | simp only [List.set_cons_succ] | simp only [List.set_cons_zero]))
                    refine wpAnyH_ready (rs := [10]) (by kernel_rfl) (by simp) ?_
                    refine AllReadyH.cons rfl (fun KK hKK => ?_) AllReadyH.nil
                    go_simp
                    go_at_call 14
                    refine (HFd.out _ _ HXw.out (by first | exact Chg.refl _ _ | exact (Chg.refl _ _).drew)).mono ?_
                    rintro e w9 ⟨rfl, i9, j9, e1, e2, e3, e4, HU9⟩
                    have hS9 : Chg (fun _ => False) W7 w9 := HU9.chg
                    have HU9 := keepH HU9
                    have HE3 := keepH e3
                    have HE4 := keepH e4
                    clear e3 e4
                    try go_wp2_with fail
                    refine hKK.out _ _ ?_ (fun hHeld => ?_)
                    · exact hS9
                    clear hKK KK
                    (try simp only [Act.put]); (try simp only [List.setIfInBounds_toArray]); (repeat (first | simp only [List.set_cons_succ] | simp only [List.set_cons_zero]))
                    refine wpAnyH_take (i := 11) (v := ?_) rfl (by kernel_rfl) (by kernel_rfl) (by kernel_rfl) (fun _ _ _ h => h) (Or.inl ⟨by rfl, ?_⟩) hHeld ?_
                    rotate_left
                    · intro w hSw
                      (try dsimp only at hSw)
                      go_simp
                      try with_reducible rfl
                    (try simp only [Act.put]); (try simp only [List.setIfInBounds_toArray]); (repeat (first | simp only [List.set_cons_succ] | simp only [List.set_cons_zero]))
                    refine wpAnyH_done (by kernel_rfl) ?_ _
                    go_simp
                    try go_wp2_with fail
                    go_meet
                    obtain ⟨w', A'⟩ := HA.out.next HE3.out HE4.out
                    exact ⟨by simp, _, w', keepH A', HU9⟩
                  case rest =>
                    obtain ⟨rfl, U', w', HA', HU'⟩ := hcut
                    go_wp2_with fail
                    refine ⟨⟨n, U', w', by omega, ?_, rfl, HA', HU'⟩, by simp [intOf]⟩
                    rw [← HS0.out]; simp
              · obtain rfl : r = 0 := by omega
                have tn : ¬ (0 : Int) ≤ (0 : Int) - 1 := by omega
                go_wp2_with fail
                refine ⟨⟨o + 1, by omega, ?_, by simp, HE7.out.quiet HUr.out.chg⟩, by simp [intOf]; omega⟩
                rw [HsL.out]; simp
      · have t1 : ¬ (o : Int) < 3 := by omega
        obtain rfl : o = 3 := by omega
        obtain ⟨sI, hsI⟩ : ∃ s, s = sumL ch 3 := ⟨_, rfl⟩
        have hsIe : sI = (ch 2).length + (ch 3).length + (ch 4).length := by rw [hsI]; show 0 + (ch 2).length + (ch 3).length + (ch 4).length = _; omega
        have hsIb : sI ≤ 3 * 16384 := by rw [hsI]; exact sumL_le HFn.out.inv.gi 3 (by omega)
        obtain ⟨f, hf⟩ : ∃ f, f = dnF L c := ⟨_, rfl⟩
        have HCt : Hid ((dnAll f cl R.length).length ≤ sI ∧ sI ≤ (dnAll f cl R.length).length + R.length) := by rw [hf, hsIe]; exact HFn.out.count
        have HFf : Hid (∀ i j q, callAt L i j = some q → f i j = (decide (q.kind = 1) && (decide (q.a ≠ q.b) && casD (c.σ i j)))) := fun i j q hq => by rw [hf]; unfold dnF; rw [hq]
        have HAb : Hid (∀ i, i ≤ R.length → (dnAll f cl i).length ≤ 262144) := fun i hi => Nat.le_trans (dnAll_len f cl i 4096 (fun k hk => HCb.out k (by omega))) (by omega)
        rw [← hsI]
        clear hsI hsIe hf
        go_wp2_with fail
        go_loopw [14, 15] (fun s14 s15 wr => ∃ i : Nat, i ≤ R.length ∧ s14 = .int .i64 (((dnAll f cl i).length : Nat) : Int) ∧ s15 = .int .i64 (i : Int) ∧ Hid (EndR W0 wr m b R (.slice p5 R.length c5) cl pv qv c ch own picks.length)) (fun _ s15 _ => R.length - (intOf s15).toNat)
        case atStart => exact ⟨0, by omega, rfl, rfl, HE1⟩
        case round =>
          obtain ⟨i, hi, rfl, rfl, HE2⟩ := hrel
          by_cases hi2 : i < R.length
          · have t2 : (i : Int) < (R.length : Int) := by omega
            obtain ⟨th, hth⟩ : ∃ th, L[i]? = some th := ⟨L[i]'(by have := HRl.out; omega), List.getElem?_eq_getElem _⟩
            have hcl := HFn.out.len i th hth
            have mth := List.mem_of_getElem? hth
            have hlen := HT.out.len th mth
            have HKt := keepH (HT.out.ks th mth)
            have HTh := keepH hth
            have HCl := keepH hcl
            obtain ⟨bk, off, hp, hbk, hc0⟩ := HT.out.row.resolve_left (fun e => by rw [e] at hth; simp at hth)
            subst hp
            have HCc : Hid (w.cell? ⟨bk, off + i, none⟩ = some (.slice th.p th.ks.length th.c)) := hc0 i th hth
            obtain ⟨g5, d5, es⟩ := slice_pos HE2.out.out (by omega)
            simp only [Value.slice.injEq] at es
            obtain ⟨rfl, _, rfl⟩ := es
            obtain ⟨p12, c12, hq12⟩ := slice_of (HE2.out.inn i hi2)
            have HQ12 := keepH hq12
            have z5 : wr.cell? ⟨g5, i, none⟩ = some (.slice p12 (cl i) c12) := by rw [← hq12]; exact HE2.out.cellQ hi2 rfl
            obtain ⟨dA, hdA⟩ : ∃ d, d = (dnAll f cl i).length := ⟨_, rfl⟩
            have hdAb : dA ≤ 262144 := by rw [hdA]; exact HAb.out i hi
            have HdA : Hid ((dnAll f cl (i + 1)).length = dA + (dnRow f i (cl i)).length) := by rw [hdA]; show (dnAll f cl i ++ dnRow f i (cl i)).length = _; rw [List.length_append]
            rw [← hdA]
            clear hc0 hth mth hbk hcl hq12 hdA
            go_wp2_with fail
            go_loopw [14, 16] (fun s14 s16 wj => ∃ j : Nat, j ≤ cl i ∧ s14 = .int .i64 ((dA + (dnRow f i j).length : Nat) : Int) ∧ s16 = .int .i64 (j : Int) ∧ Hid (EndR W0 wj m b R (.slice (some ⟨g5, 0, none⟩) R.length c5) cl pv qv c ch own picks.length)) (fun _ s16 _ => cl i - (intOf s16).toNat)
            case atStart => exact ⟨0, by omega, by simp [dnRow], rfl, HE2⟩
            case round =>
              obtain ⟨j, hj, rfl, rfl, HE3⟩ := hrel
              have z5 : wr.cell? ⟨g5, i, none⟩ = some (.slice p12 (cl i) c12) := by rw [← HQ12.out]; exact HE3.out.cellQ hi2 rfl
              have hclL := HCl.out
              obtain ⟨dS, hdS⟩ : ∃ d, d = dA + (dnRow f i j).length := ⟨_, rfl⟩
              have hdSb : dS ≤ 262144 + 1048576 := by have := dnRow_len f i j; omega
              rw [← hdS]
              by_cases hj2 : j < cl i
              · have t3 : (j : Int) < (cl i : Int) := by omega
                have HdS : Hid (dA + (dnRow f i (j + 1)).length = dS + (if f i j then 1 else 0)) := by
                  show dA + (dnRow f i j ++ (if f i j then [(i, j)] else [])).length = _
                  rw [List.length_append, hdS]; split <;> simp <;> omega
                obtain ⟨q, hq⟩ : ∃ q, th.ks[j]? = some q := ⟨th.ks[j]'(by omega), List.getElem?_eq_getElem _⟩
                have HCa : Hid (callAt L i j = some q) := by show callAt L i j = some q; unfold callAt; rw [HTh.out]; exact hq
                have HFq := keepH (HFf.out i j q HCa.out)
                have Cx : Hid (Chg (fun _ => False) w wr) := C0.out.falls HE3.out.chg
                have hbx : wr.heap[w.heap.size]? = some (.cells #[.slice (some ⟨bk, off, none⟩) L.length ct, .slice pp picks.length cp] 25 (0, 0)) := (HE3.out.chg.block _ (lt_of hb0.out) (fun x => x)).trans hb0.out
                have y0 : wr.cell? ⟨w.heap.size, 0, none⟩ = some (.slice (some ⟨bk, off, none⟩) L.length ct) := cell_of hbx 0
                obtain ⟨bk2, off2, hp2, hb2, hcc⟩ := HKt.out.resolve_left (fun e => by rw [e] at hq; simp at hq)
                have hcell : ∀ (f : Nat) (u : Value), q.cells[f]? = some u → wr.cell? ⟨bk2, off2 + j * 4 + f, none⟩ = some u := fun f u hf => by rw [Nat.add_assoc]; exact cell_chg Cx.out (hcc j q hq f u hf) (fun x => x)
                have d0 : wr.cell? ⟨bk2, off2 + j * 4, none⟩ = some (.int .i64 q.kind) := hcell 0 _ rfl
                have d1 : wr.cell? ⟨bk2, off2 + j * 4 + 1, none⟩ = some (.int .u64 (q.obj : Int)) := hcell 1 _ rfl
                have d2 : wr.cell? ⟨bk2, off2 + j * 4 + 2, none⟩ = some (.int .u64 (q.a : Int)) := hcell 2 _ rfl
                have d3 : wr.cell? ⟨bk2, off2 + j * 4 + 3, none⟩ = some (.int .u64 (q.b : Int)) := hcell 3 _ rfl
                have zx : wr.cell? ⟨bk, off + i, none⟩ = some (.slice (some ⟨bk2, off2, none⟩) th.ks.length th.c) := by rw [← hp2]; exact cell_chg Cx.out HCc.out (fun x => x)
                have tL : (i : Int) < (L.length : Int) := by have := HRl.out; omega
                have tk : (j : Int) < (th.ks.length : Int) := by omega
                obtain ⟨w6, hw6⟩ : ∃ w6, w6 = wr.alloc (.cells #[.int .i64 q.kind, .int .u64 (q.obj : Int), .int .u64 (q.a : Int), .int .u64 (q.b : Int)] 50) := ⟨_, rfl⟩
                obtain ⟨g9, hg9⟩ : ∃ g9, g9 = wr.heap.size := ⟨_, rfl⟩
                have c6 : Chg (fun _ => False) wr w6 := by rw [hw6]; exact (Chg.refl _ _).alloc _
                have HE6 := keepH (HE3.out.quiet c6)
                have nb : w6.heap[g9]? = some (.cells #[.int .i64 q.kind, .int .u64 (q.obj : Int), .int .u64 (q.a : Int), .int .u64 (q.b : Int)] 50 (0, 0)) := by rw [hw6, hg9]; exact heap_alloc_new _ _
                have HNb := keepH nb
                clear hbx hcell hcc hq hp2 hb2 c6 nb hdS
                go_upto_region 36 with fail
                rw [← hw6, ← hg9]
                clear hw6 hg9 d0 d1 d2 d3 zx y0
                have o0 : w6.cell? ⟨g9, 0, none⟩ = some (.int .i64 q.kind) := cell_of HNb.out 0
                have o2 : w6.cell? ⟨g9, 2, none⟩ = some (.int .u64 (q.a : Int)) := cell_of HNb.out 2
                have o3 : w6.cell? ⟨g9, 3, none⟩ = some (.int .u64 (q.b : Int)) := cell_of HNb.out 3
                have z6 : w6.cell? ⟨g5, i, none⟩ = some (.slice p12 (cl i) c12) := by rw [← HQ12.out]; exact HE6.out.cellQ hi2 rfl
                by_cases m1 : q.kind = 1
                · rw [m1] at o0
                  by_cases m6 : q.a = q.b
                  · have m6b : ((q.a : Int) != (q.b : Int)) = false := by simp [m6]
                    have m6i : (q.a : Int) = (q.b : Int) := by omega
                    go_wp2_with fail
                    refine ⟨⟨j + 1, by omega, ?_, by simp, HE6⟩, by simp [intOf]; omega⟩
                    rw [HdS.out, HFq.out]; simp [m6]
                  · have m6b : ((q.a : Int) != (q.b : Int)) = true := by simp; omega
                    have m6i : ¬ (q.a : Int) = (q.b : Int) := by omega
                    obtain ⟨p, n, sw, lst, epr, hBl, l11, l13, hD⟩ := HE6.out.cas HFn.out hi2 hj2 HCa.out m1
                    obtain ⟨gq, dq, e12⟩ := slice_pos (HE6.out.inn i hi2) (by omega)
                    rw [HQ12.out] at e12
                    simp only [Value.slice.injEq] at e12
                    obtain ⟨rfl, _, _⟩ := e12
                    have zp : w6.cell? ⟨gq, j * 6 + 2, none⟩ = some (.pointer (some ⟨p, 0, none⟩)) := HE6.out.cellP hi2 hj2 (by omega) HQ12.out _ (by rw [epr]; rfl)
                    obtain ⟨dn, hdn⟩ : ∃ dn, dn = (decide (n = 6) && sw) := ⟨_, rfl⟩
                    have HDn : Hid (Calls Try.prog 15 #[.pointer (some ⟨p, 0, none⟩)] w6 fun e W' => e = .returned (.bool dn) ∧ W' = w6) := by rw [hdn]; exact cs_doneA hBl l11 l13
                    have hfd : f i j = dn := by rw [HFq.out, hD, ← hdn]; simp [m1, m6]
                    have HFd := keepH hfd
                    clear hfd
                    clear epr hBl l11 l13 hD hdn
                    go_wp2_with fail
                    refine HDn.out.mono ?_
                    rintro e w7 ⟨rfl, rfl⟩
                    cases dn
                    · go_wp2_with fail
                      refine ⟨⟨j + 1, by omega, ?_, by simp, HE6⟩, by simp [intOf]; omega⟩
                      rw [HdS.out, HFd.out]; simp
                    · go_wp2_with fail
                      refine ⟨⟨j + 1, by omega, ?_, by simp, HE6⟩, by simp [intOf]; omega⟩
                      rw [HdS.out, HFd.out]; simp
                · have m1b : (q.kind == 1) = false := by simpa using m1
                  go_wp2_with fail
                  refine ⟨⟨j + 1, by omega, ?_, by simp, HE6⟩, by simp [intOf]; omega⟩
                  rw [HdS.out, HFq.out]; simp [m1]
              · have t3 : ¬ (j : Int) < (cl i : Int) := by omega
                obtain rfl : j = cl i := by omega
                have HdE := keepH hdS
                clear hdS
                go_wp2_with fail
                refine ⟨⟨i + 1, by omega, ?_, by simp, HE3⟩, by simp [intOf]; omega⟩
                rw [HdA.out, ← HdE.out]
          · have t2 : ¬ (i : Int) < (R.length : Int) := by omega
            obtain rfl : i = R.length := by omega
            obtain ⟨dT, hdT⟩ : ∃ d, d = (dnAll f cl R.length).length := ⟨_, rfl⟩
            obtain ⟨q1, q2⟩ := HCt.out
            rw [← hdT] at q1 q2 ⊢
            obtain ⟨dE, hdE⟩ : ∃ d, d = dT + L.length := ⟨_, rfl⟩
            have hLR := HRl.out
            have wE : IntKind.i64.wrap ((dT : Int) + (L.length : Int)) = (dE : Int) := by rw [IntKind.wrap_i64]; omega
            have wE2 : (dT : Int) + (L.length : Int) = (dE : Int) := by omega
            have tA : (dT : Int) ≤ (sI : Int) := by omega
            have tB : (sI : Int) ≤ (dE : Int) := by omega
            have hbx : wr.heap[w.heap.size]? = some (.cells #[.slice pt L.length ct, .slice pp picks.length cp] 25 (0, 0)) := (HE2.out.chg.block _ (lt_of hb0.out) (fun x => x)).trans hb0.out
            have y0 : wr.cell? ⟨w.heap.size, 0, none⟩ = some (.slice pt L.length ct) := cell_of hbx 0
            clear hbx hdT hdE hLR
            go_wp2_with fail
            go_ret
            exact ⟨by simp, C0.out.falls HE2.out.chg⟩
end Go.Proofs.Ytadbgmcfjemkeaa
