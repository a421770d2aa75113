/- Of what Reads, Cas, Ats and Takes do beside each other: what is known of each, and stays (pure). -/
import Derived.Test.YtadbgmcfjemkeaaGv
namespace Go.Proofs.Ytadbgmcfjemkeaa
open Go.RowKit Go.Shelf
set_option linter.unusedVariables false

def FD (cs l : List Nat) (s : VS) : Prop := (s.fpos = 1 → s.ver = s.head ∧ TL cs l s.ver s.pos s.st) ∧ (s.fpos = 2 → s.head = 0 ∨ (s.head ∈ l ∧ cellN cs (s.head + 1) ≠ 0))
def HV (cs l : List Nat) (s : RS) : Prop := (s.f.head = 0 ∧ s.val = 0) ∨ (s.f.head ∈ l ∧ cellN cs (s.f.head + 1) ≠ 0 ∧ s.val = cellN cs s.f.head)
structure RD (cs l : List Nat) (s : RS) : Prop where
  r0 : s.rp = 0 → FD cs l s.f ∧ s.val = 0
  r1 : s.rp = 1 → s.f.head ∈ l ∧ cellN cs (s.f.head + 1) ≠ 0 ∧ s.val = 0
  r2 : s.rp = 2 → HV cs l s
  le : s.rp ≤ 2
section
variable {next : Nat} {cs cs' : List Nat} {ch ch' : Nat → List Nat} {own own' : Nat → Nat × Nat} {ij ij' : Nat × Nat} {next' : Nat} {o : Nat}
theorem TL.mono {ver pos st : Nat} (h : GI next cs ch) (g : Gr cs ch cs' ch') (h' : GI next' cs' ch') (ho : isO o) (t : TL cs (ch o) ver pos st) : TL cs' (ch' o) ver pos st := by
  refine ⟨g.mem ho t.mem, fun z => ⟨(t.two z).1, Nat.le_trans (t.two z).2.1 g.cam, fun b hb hl => ?_⟩, fun z => by rw [(g.val o ho ver t.mem).2.2 (t.three z)]; exact t.three z⟩
  obtain ⟨pre, e⟩ := g.suf o ho
  have hp := h'.pw o ho
  rw [e] at hb hp
  rcases List.mem_append.1 hb with hb | hb
  · have := ((List.pairwise_append.1 hp).2.2 b hb ver t.mem).1
    omega
  · have r := pw_get (h.pw o ho) t.mem hb hl
    rw [(g.val o ho b hb).2.2 r.2.1]
    exact (t.two z).2.2 b hb hl
theorem FD.mono {s : VS} (h : GI next cs ch) (g : Gr cs ch cs' ch') (h' : GI next' cs' ch') (ho : isO o) (t : FD cs (ch o) s) : FD cs' (ch' o) s :=
  ⟨fun z => ⟨(t.1 z).1, (t.1 z).2.mono h g h' ho⟩, fun z => (t.2 z).elim .inl (fun y => .inr ⟨g.mem ho y.1, by rw [(g.val o ho _ y.1).2.2 y.2]; exact y.2⟩)⟩
theorem HV.mono {s : RS} (g : Gr cs ch cs' ch') (ho : isO o) (t : HV cs (ch o) s) : HV cs' (ch' o) s :=
  t.elim .inl (fun y => .inr ⟨g.mem ho y.1, by rw [(g.val o ho _ y.1).2.2 y.2.1]; exact y.2.1, by rw [(g.val o ho _ y.1).1]; exact y.2.2⟩)
theorem RD.mono {s : RS} (h : GI next cs ch) (g : Gr cs ch cs' ch') (h' : GI next' cs' ch') (ho : isO o) (t : RD cs (ch o) s) : RD cs' (ch' o) s :=
  ⟨fun z => ⟨(t.r0 z).1.mono h g h' ho, (t.r0 z).2⟩, fun z => ⟨g.mem ho (t.r1 z).1, by rw [(g.val o ho _ (t.r1 z).1).2.2 (t.r1 z).2.1]; exact (t.r1 z).2.1, (t.r1 z).2.2⟩, fun z => (t.r2 z).mono g ho, t.le⟩
theorem find_gi {s : VS} {th : Int} {obj : Nat} (h : GI next cs ch) (ho : isO obj) (F : FD cs (ch obj) s) (hf : s.fok) (q : Out VS) (e : fdO th 16384 next cs 1 obj s = q) :
    q.next = next ∧ Goo next cs ch own ij next q.cs ch own ∧ FD q.cs (ch obj) q.s ∧ (q.done = true → q.s.fpos = 2) ∧ (q.done = false → q.s.fok) := by
  subst e
  unfold fdO
  rcases hf with h0 | ⟨h0, hp⟩
  · simp only [if_pos h0]
    refine ⟨by trivial, Goo.refl h own ij, ⟨fun z => ⟨rfl, ?_⟩, fun z => ?_⟩, fun z => ?_, fun z => ?_⟩
    · have hz : cellN cs obj ≠ 0 := fun c => by simp [fpN, c] at z
      obtain ⟨r, hr⟩ := (h.chn obj ho).head hz
      exact ⟨by rw [hr]; simp, fun y => by simp at y, fun y => by simp at y⟩
    · simp only [fpN] at z ⊢
      split at z
      · next c => exact .inl c
      · omega
    · have z' : cellN cs obj = 0 := by simpa using z
      simp [fpN, z']
    · have z' : ¬ cellN cs obj = 0 := by simpa using z
      exact .inr ⟨by simp [fpN, z'], by simp⟩
  · simp only [if_neg (show ¬ s.fpos = 0 by omega)]
    obtain ⟨t1, t2⟩ := F.1 h0
    obtain ⟨g1, g2⟩ := h.tell (own := own) (ij := ij) ho t2 hp
    refine ⟨by trivial, g1, ⟨fun z => ⟨t1, g2⟩, fun z => ?_⟩, fun z => by have z' : tlD cs s.ver s.pos = true := z; show (if tlD cs s.ver s.pos = true then 2 else 1) = 2; rw [z']; rfl, fun z => ?_⟩
    · simp only at z ⊢
      cases hd : tlD cs s.ver s.pos
      · rw [hd] at z; simp at z
      · rw [← t1]
        exact .inr ⟨g2.mem, g2.three (of_decide_eq_true hd)⟩
    · have z' : tlD cs s.ver s.pos = false := z
      exact .inr ⟨by show (if tlD cs s.ver s.pos = true then 2 else 1) = 1; rw [z']; rfl, tlP_not z'⟩
theorem read_gi {s : RS} {th : Int} {obj : Nat} (h : GI next cs ch) (ho : isO obj) (R : RD cs (ch obj) s) (hr : s.rok) (q : Out RS) (e : rdO th 16384 next cs 1 obj s = q) :
    q.next = next ∧ Goo next cs ch own ij next q.cs ch own ∧ RD q.cs (ch obj) q.s ∧ (q.done = true → q.s.rp = 2) ∧ (q.done = false → q.s.rok) := by
  subst e
  unfold rdO
  rcases hr with ⟨h0, hf⟩ | h1
  · simp only [if_pos h0]
    obtain ⟨f, hq⟩ : ∃ f, fdO th 16384 next cs 1 obj s.f = f := ⟨_, rfl⟩
    obtain ⟨e1, e2, e3, e4, e5⟩ := find_gi (own := own) (ij := ij) h ho (R.r0 h0).1 hf f hq
    have hv := (R.r0 h0).2
    rw [hq]
    cases hd : f.done
    · refine ⟨e1, e2, ⟨fun _ => ⟨e3, hv⟩, fun z => by simp at z, fun z => by simp at z, by simp⟩, fun z => by simp at z, fun _ => .inl ⟨by simp, e5 hd⟩⟩
    · by_cases hz : f.s.head = 0
      · simp only [hz, if_true]
        exact ⟨e1, e2, ⟨fun z => by simp at z, fun z => by simp at z, fun _ => .inl ⟨hz, hv⟩, by simp⟩, fun _ => by simp, fun z => by simp at z⟩
      · simp only [hz, if_true, if_false]
        exact ⟨e1, e2, ⟨fun z => by simp at z, fun _ => by
          have := (e3.2 (e4 hd)).resolve_left hz
          exact ⟨this.1, this.2, hv⟩, fun z => by simp at z, by simp⟩, fun z => by simp at z, fun _ => .inr (by simp)⟩
  · simp only [if_neg (show ¬ s.rp = 0 by omega)]
    exact ⟨by trivial, Goo.refl h own ij, ⟨fun z => by simp at z, fun z => by simp at z, fun _ => .inr ⟨(R.r1 h1).1, (R.r1 h1).2.1, rfl⟩, by simp⟩, fun _ => by first | rfl | trivial, fun z => by simp at z⟩
/-- A Cas that put its version there. -/
def Inst (s : CasS) : Prop := s.nx = 4 ∨ (s.nx = 6 ∧ s.sw = true ∧ s.old ≠ s.now)
structure Ins (cs l : List Nat) (own : Nat → Nat × Nat) (ij : Nat × Nat) (s : CasS) : Prop where
  mem : s.made ∈ l
  ow : own s.made = ij
  v : cellN cs s.made = s.now
  old : (cellN cs (s.made + 2) = 0 ∧ s.old = 0) ∨ (cellN cs (s.made + 2) ∈ l ∧ cellN cs (cellN cs (s.made + 2)) = s.old)
  ne : s.old ≠ s.now
structure CasP.pp (next : Nat) (cs : List Nat) (ch : Nat → List Nat) (own : Nat → Nat × Nat) (ij : Nat × Nat) (s : CasP) : Prop where
  cam : s.cam = 1
  obj : isO s.obj
  n0 : s.s.nx = 0 → RD cs (ch s.obj) s.s.r
  n1 : s.s.nx = 1 ∨ s.s.nx = 2 → HV cs (ch s.obj) s.s.r ∧ s.s.r.val = s.s.old ∧ s.s.old ≠ s.s.now
  n2 : s.s.nx = 2 → Fresh next cs ch own ij s.s.now s.s.r.f.head s.s.made
  n3 : s.s.nx = 3 → cellN cs s.obj ≠ 0
  n4 : s.s.nx = 4 ∨ s.s.nx = 5 → TL cs (ch s.obj) s.s.r.f.ver s.s.r.f.pos s.s.r.f.st
  sw : s.s.nx ≠ 4 → s.s.nx ≠ 6 → s.s.sw = false
  ins : Inst s.s → Ins cs (ch s.obj) own ij s.s
theorem Ins.mono {s : CasS} (h : GI next cs ch) (G : Goo next cs ch own ij next' cs' ch' own') (ho : isO o) (t : Ins cs (ch o) own ij' s) : Ins cs' (ch' o) own' ij' s := by
  obtain ⟨v1, v2, _⟩ := G.gr.val o ho _ t.mem
  refine ⟨G.gr.mem ho t.mem, by rw [G.ow _ (h.vs o ho _ t.mem).2.1]; exact t.ow, by rw [v1]; exact t.v, ?_, t.ne⟩
  rw [v2]
  exact t.old.imp id (fun y => ⟨G.gr.mem ho y.1, by rw [(G.gr.val o ho _ y.1).1]; exact y.2⟩)
theorem Fresh.mono {now head a : Nat} (G : Goo next cs ch own ij next' cs' ch' own') (hn : ij' ≠ ij) (t : Fresh next cs ch own ij' now head a) : Fresh next' cs' ch' own' ij' now head a := by
  obtain ⟨c1, c2, c3, c4⟩ := G.nf a t.lo t.hi t.md (by rw [t.ow]; exact hn) t.out
  exact ⟨t.lo, by have := t.hi; have := G.le; omega, t.md, by rw [G.ow a t.hi]; exact t.ow, c4, t.lt, by rw [c1]; exact t.v, by rw [c2]; exact t.s, by rw [c3]; exact t.l⟩
theorem CasP.pp.mono {s : CasP} (h : GI next cs ch) (G : Goo next cs ch own ij next' cs' ch' own') (hn : ij' ≠ ij) (P : s.pp next cs ch own ij') : s.pp next' cs' ch' own' ij' :=
  ⟨P.cam, P.obj, fun z => (P.n0 z).mono h G.gr G.gi P.obj, fun z => ⟨(P.n1 z).1.mono G.gr P.obj, (P.n1 z).2⟩, fun z => (P.n2 z).mono G hn, fun z => G.gr.obj _ P.obj (P.n3 z), fun z => (P.n4 z).mono h G.gr G.gi P.obj, P.sw, fun z => (P.ins z).mono h G P.obj⟩
def CasS.con (s : CasS) : Prop := (s.nx = 0 ∧ s.r.rok) ∨ s.nx = 1 ∨ s.nx = 2 ∨ s.nx = 3 ∨ ((s.nx = 4 ∨ s.nx = 5) ∧ s.r.f.pos ≤ 2)
theorem cas_gi {s : CasP} {th : Int} (h : GI next cs ch) (P : s.pp next cs ch own ij) (hon : s.s.con) (q : Out CasS) (e : casO th 16384 next cs s.cam s.obj s.s = q) :
    ∃ ch' own', Goo next cs ch own ij q.next q.cs ch' own' ∧ CasP.pp q.next q.cs ch' own' ij ⟨s.cam, s.obj, q.s⟩ ∧ (q.done = false → q.s.con) ∧ (q.done = true → q.s.nx = 6) ∧ (∀ o a, a ∈ ch' o → a ∈ ch o ∨ (o = s.obj ∧ a = q.s.made ∧ Inst q.s)) ∧ (Inst s.s → Inst q.s ∧ q.s.made = s.s.made) ∧ q.s.old = s.s.old ∧ q.s.now = s.s.now := by
  have ho := P.obj
  have o1 := ho.2
  rw [P.cam] at e
  subst e
  unfold casO
  have same : ∀ o a, a ∈ ch o → a ∈ ch o ∨ (o = s.obj ∧ a = (casO th 16384 next cs 1 s.obj s.s).s.made ∧ Inst (casO th 16384 next cs 1 s.obj s.s).s) := fun o a z => .inl z
  rcases hon with ⟨h0, hr⟩ | h1 | h2 | h3 | ⟨h4, hp⟩
  · simp only [if_pos h0]
    obtain ⟨q, hq⟩ : ∃ q, rdO th 16384 next cs 1 s.obj s.s.r = q := ⟨_, rfl⟩
    obtain ⟨e1, e2, e3, e4, e5⟩ := read_gi (own := own) (ij := ij) h ho (P.n0 h0) hr q hq
    have hsw := P.sw (by omega) (by omega)
    have ni : ¬ Inst s.s := fun z => by rcases z with z | z <;> omega
    rw [hq]
    cases hd : q.done
    · simp only [Bool.false_eq_true, if_false]
      rw [e1]
      exact ⟨ch, own, e2, ⟨P.cam, ho, fun _ => e3, fun z => by simp only at z; omega, fun z => by simp only at z; omega, fun z => by simp only at z; omega, fun z => by simp only at z; omega, fun _ _ => hsw, fun z => by rcases z with z | ⟨z, _⟩ <;> simp only at z <;> omega⟩, fun _ => .inl ⟨h0, e5 hd⟩, fun z => by simp at z, fun o a z => .inl z, fun z => absurd z ni, by first | rfl | trivial, by first | rfl | trivial⟩
    · simp only [if_true]
      rw [e1]
      have hv := e3.r2 (e4 hd)
      unfold CasS.comp
      by_cases c : q.s.val = s.s.old ∧ s.s.old ≠ s.s.now
      · simp only [if_pos c]
        exact ⟨ch, own, e2, ⟨P.cam, ho, fun z => by simp at z, fun _ => ⟨hv, c.1, c.2⟩, fun z => by simp at z, fun z => by simp at z, fun z => by simp at z, fun _ _ => hsw, fun z => by rcases z with z | ⟨z, _⟩ <;> simp at z⟩, fun _ => .inr (.inl (by first | rfl | trivial)), fun z => by simp at z, fun o a z => .inl z, fun z => absurd z ni, by first | rfl | trivial, by first | rfl | trivial⟩
      · simp only [if_neg c]
        refine ⟨ch, own, e2, ⟨P.cam, ho, fun z => by simp at z, fun z => by simp at z, fun z => by simp at z, fun z => by simp at z, fun z => by simp at z, fun _ z => absurd rfl z, fun z => ?_⟩, fun z => by simp at z, fun _ => by first | rfl | trivial, fun o a z => .inl z, fun z => absurd z ni, by first | rfl | trivial, by first | rfl | trivial⟩
        rcases z with z | ⟨_, z1, z2⟩
        · simp at z
        · exact absurd ⟨by simpa using z1, z2⟩ c
  · have hsw := P.sw (by omega) (by omega)
    have ni : ¬ Inst s.s := fun z => by rcases z with z | z <;> omega
    have n0 : ¬ s.s.nx = 0 := by omega
    simp only [if_neg n0, if_pos h1]
    obtain ⟨p1, p2, p3⟩ := P.n1 (.inl h1)
    by_cases ok : alOk 16384 next 3
    · have a1 : alAt 16384 next 3 = next := if_pos ok
      have a2 : alNext 16384 next 3 = next + 3 := if_pos ok
      have hn := h.nx
      have nz : next ≠ 0 := by omega
      obtain ⟨G, c1, c2, c3⟩ := h.grow (own := own) (ij := ij) s.s.now s.s.r.f.head ok
      rw [a1, a2]
      have e6 : (s.s.grown next).nx = 2 := by simp [CasS.grown, nz]
      refine ⟨ch, updN own next ij, G, ⟨P.cam, ho, fun z => by rw [e6] at z; omega, fun _ => ⟨p1.mono G.gr ho, p2, p3⟩, fun _ => ⟨hn.1, Nat.le_refl _, hn.2.2, updN_same _ _ _, fun o hoo z => by have := (h.vs o hoo _ z).2.1; simp only [CasS.grown] at this; omega, ?_, c1, c2, c3⟩, fun z => by rw [e6] at z; omega, fun z => by rw [e6] at z; omega, fun _ _ => hsw, fun z => by rcases z with z | ⟨z, _⟩ <;> rw [e6] at z <;> omega⟩, fun _ => .inr (.inr (.inl e6)), fun z => by simp [nz] at z, fun o a z => .inl z, fun z => absurd z ni, by first | rfl | trivial, by first | rfl | trivial⟩
      show s.s.r.f.head < next
      rcases p1 with z | z
      · omega
      · have := (h.vs _ ho _ z.1).2.1; omega
    · have a1 : alAt 16384 next 3 = 0 := if_neg ok
      have a2 : alNext 16384 next 3 = next := if_neg ok
      have a4 : alN 16384 next cs [s.s.now, 0, s.s.r.f.head] = cs := if_neg ok
      rw [a1, a2, a4]
      have e6 : (s.s.grown 0).nx = 6 := by simp [CasS.grown]
      exact ⟨ch, own, Goo.refl h own ij, ⟨P.cam, ho, fun z => by rw [e6] at z; omega, fun z => by rw [e6] at z; omega, fun z => by rw [e6] at z; omega, fun z => by rw [e6] at z; omega, fun z => by rw [e6] at z; omega, fun _ _ => hsw, fun z => by
        rcases z with z | ⟨_, z, _⟩
        · rw [e6] at z; omega
        · have z' : s.s.sw = true := z
          rw [hsw] at z'; simp at z'⟩, fun z => by simp at z, fun _ => e6, fun o a z => .inl z, fun z => absurd z ni, by first | rfl | trivial, by first | rfl | trivial⟩
  · have hsw := P.sw (by omega) (by omega)
    have ni : ¬ Inst s.s := fun z => by rcases z with z | z <;> omega
    have n0 : ¬ s.s.nx = 0 := by omega
    have n1 : ¬ s.s.nx = 1 := by omega
    simp only [if_neg n0, if_neg n1, if_pos h2]
    obtain ⟨p1, p2, p3⟩ := P.n1 (.inr h2)
    have f := P.n2 h2
    by_cases c : cellN cs s.obj = s.s.r.f.head
    · have ck : casOk 16384 cs s.obj s.s.r.f.head = true := decide_eq_true ⟨by omega, c⟩
      simp only [ck, if_true]
      obtain ⟨G, g1, g2⟩ := h.swap ho f (p1.imp And.left (fun z => ⟨z.1, z.2.1⟩)) c
      refine ⟨_, own, G, ⟨P.cam, ho, fun z => by simp [CasS.aim] at z, fun z => by simp [CasS.aim] at z, fun z => by simp [CasS.aim] at z, fun z => by simp [CasS.aim] at z, fun _ => ⟨?_, fun z => by simp [CasS.aim] at z, fun z => by simp [CasS.aim] at z⟩, fun z => by simp [CasS.aim] at z, fun _ => ⟨?_, f.ow, g1, ?_, p3⟩⟩, fun _ => .inr (.inr (.inr (.inr ⟨.inl rfl, Nat.zero_le _⟩))), fun z => by simp at z, fun o a z => ?_, fun z => absurd z ni, by first | rfl | trivial, by first | rfl | trivial⟩
      · show s.s.made ∈ updN ch s.obj (s.s.made :: ch s.obj) s.obj
        rw [updN_same]; simp
      · show s.s.made ∈ updN ch s.obj (s.s.made :: ch s.obj) s.obj
        rw [updN_same]; simp
      · show (cellN _ (s.s.made + 2) = 0 ∧ s.s.old = 0) ∨ (cellN _ (s.s.made + 2) ∈ updN ch s.obj (s.s.made :: ch s.obj) s.obj ∧ _ = s.s.old)
        rw [g2, updN_same]
        rcases p1 with z | z
        · exact .inl ⟨z.1, by rw [← p2]; exact z.2⟩
        · exact .inr ⟨List.mem_cons_of_mem _ z.1, by show cellN _ (cellN _ (s.s.made + 2)) = s.s.old; rw [g2, (G.gr.val _ ho _ z.1).1, ← z.2.2]; exact p2⟩
      · by_cases eo : o = s.obj
        · subst eo
          rw [updN_same] at z
          exact (List.mem_cons.1 z).elim (fun y => .inr ⟨rfl, y, .inl rfl⟩) .inl
        · rw [updN_other _ _ _ _ eo] at z
          exact .inl z
    · have ck : casOk 16384 cs s.obj s.s.r.f.head = false := decide_eq_false (fun z => c z.2)
      have e7 : casN 16384 cs s.obj s.s.r.f.head s.s.made = cs := if_neg (fun z => c z.2)
      simp only [ck, Bool.false_eq_true, if_false, e7]
      refine ⟨ch, own, Goo.refl h own ij, ⟨P.cam, ho, fun z => by simp at z, fun z => by simp at z, fun z => by simp at z, fun _ => ?_, fun z => by simp at z, fun _ _ => hsw, fun z => by rcases z with z | ⟨z, _⟩ <;> simp at z⟩, fun _ => .inr (.inr (.inr (.inl rfl))), fun z => by simp at z, fun o a z => .inl z, fun z => absurd z ni, by first | rfl | trivial, by first | rfl | trivial⟩
      rcases p1 with z | z
      · rw [z.1] at c; exact c
      · exact (h.chn _ ho).ne z.1
  · have hsw := P.sw (by omega) (by omega)
    have ni : ¬ Inst s.s := fun z => by rcases z with z | z <;> omega
    have n0 : ¬ s.s.nx = 0 := by omega
    have n1 : ¬ s.s.nx = 1 := by omega
    have n2 : ¬ s.s.nx = 2 := by omega
    simp only [if_neg n0, if_neg n1, if_neg n2, if_pos h3]
    obtain ⟨r, hr⟩ := (h.chn _ ho).head (P.n3 h3)
    exact ⟨ch, own, Goo.refl h own ij, ⟨P.cam, ho, fun z => by simp [CasS.aim] at z, fun z => by simp [CasS.aim] at z, fun z => by simp [CasS.aim] at z, fun z => by simp [CasS.aim] at z, fun _ => ⟨by simp only [CasS.aim]; rw [hr]; simp, fun z => by simp [CasS.aim] at z, fun z => by simp [CasS.aim] at z⟩, fun _ _ => hsw, fun z => by rcases z with z | ⟨z, _⟩ <;> simp [CasS.aim] at z⟩, fun _ => .inr (.inr (.inr (.inr ⟨.inr rfl, Nat.zero_le _⟩))), fun z => by simp at z, fun o a z => .inl z, fun z => absurd z ni, by first | rfl | trivial, by first | rfl | trivial⟩
  · have n0 : ¬ s.s.nx = 0 := by omega
    have n1 : ¬ s.s.nx = 1 := by omega
    have n2 : ¬ s.s.nx = 2 := by omega
    have n3 : ¬ s.s.nx = 3 := by omega
    simp only [if_neg n0, if_neg n1, if_neg n2, if_neg n3]
    obtain ⟨G, t⟩ := h.tell (own := own) (ij := ij) ho (P.n4 h4) hp
    obtain ⟨d, hd⟩ : ∃ d, tlD cs s.s.r.f.ver s.s.r.f.pos = d := ⟨_, rfl⟩
    have enx : (s.s.told cs 1).nx = if d then 6 else s.s.nx := by simp [CasS.told, hd]
    have esw : (s.s.told cs 1).sw = if s.s.nx = 4 then true else s.s.sw := rfl
    have in5 : s.s.nx = 5 → ¬ Inst (s.s.told cs 1) := fun h5 z => by
      have hsw := P.sw (by omega) (by omega)
      rcases z with z | ⟨_, z, _⟩
      · rw [enx] at z; split at z <;> omega
      · rw [esw, if_neg (by omega), hsw] at z; simp at z
    have in4 : s.s.nx = 4 → Inst (s.s.told cs 1) := fun h5 => by
      have ii := P.ins (.inl h5)
      cases d
      · exact .inl (by rw [enx]; simpa using h5)
      · exact .inr ⟨by rw [enx]; simp, by rw [esw, if_pos h5], ii.ne⟩
    rw [hd]
    refine ⟨ch, own, G, ⟨P.cam, ho, fun z => ?_, fun z => ?_, fun z => ?_, fun z => ?_, fun _ => t, fun z1 z2 => ?_, fun z => ?_⟩, fun z => ?_, fun z => ?_, fun o a z => .inl z, fun z => ⟨in4 (by rcases z with z | z <;> omega), rfl⟩, rfl, rfl⟩
    · simp only [enx] at z; split at z <;> omega
    · simp only [enx] at z; split at z <;> omega
    · simp only [enx] at z; split at z <;> omega
    · simp only [enx] at z; split at z <;> omega
    · simp only [enx] at z1 z2
      cases d
      · simp at z1 z2
        show (s.s.told cs 1).sw = false
        rw [esw, if_neg z1]
        exact P.sw z1 z2
      · simp at z2
    · by_cases h5 : s.s.nx = 4
      · have ii := (P.ins (.inl h5)).mono h G ho
        exact ⟨ii.mem, ii.ow, ii.v, ii.old, ii.ne⟩
      · exact absurd z (in5 (by omega))
    · have z' : d = false := z
      refine .inr (.inr (.inr (.inr ⟨?_, tlP_not (by rw [hd]; exact z')⟩)))
      rw [enx, z']; simpa using h4
    · have z' : d = true := z
      rw [enx, z']; rfl
end
end Go.Proofs.Ytadbgmcfjemkeaa
