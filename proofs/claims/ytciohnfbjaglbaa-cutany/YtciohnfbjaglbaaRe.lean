/- Both Cuts side by side, on any cells. -/
import Derived.Test.YtciohnfbjaglbaaRc
import Derived.Test.YtciohnfbjaglbaaRd
namespace Go.Proofs.Ytciohnfbjaglbaa
open Go.RowKit Go.Shelf
set_option linter.unusedVariables false

def Plain (t : List Acc) : Prop := ∀ a ∈ t, a.vals = [] ∧ a.vs = .slice none 0 0
theorem Plain.more {t : List Acc} {a : Acc} (h : Plain t) (h1 : a.vals = []) (h2 : a.vs = .slice none 0 0) : Plain (t ++ [a]) := fun x hx => by
  rcases List.mem_append.1 hx with e | e
  · exact h x e
  · obtain rfl := List.mem_singleton.1 e
    exact ⟨h1, h2⟩
theorem kstep_acc (th : Int) (F : Nat) (l : List Nat) (most : Nat) (cs : List Nat) (s : CutS) : (kstep th F l most cs s).2.2.vals = [] ∧ (kstep th F l most cs s).2.2.vs = .slice none 0 0 := by
  unfold kstep
  repeat' split
  all_goals exact ⟨rfl, rfl⟩
theorem sim_bd {s : CutS} {r : RCut} (h : Sim s r) (hb : s.Bd) (hc : s.cnt + 1 < 18446744073709551616) (h6 : s.nx ≤ 6) : r.Bd ∧ r.pos ≤ 6 := by
  have e := h.pos
  rw [if_neg (by omega)] at e
  refine ⟨⟨fun _ => by rw [h.obj]; exact hb.obj, fun hp => by rw [h.x (by omega) (by omega)]; exact hb.kept, fun hp => by rw [(h.y (by omega) (by omega)).1]; exact hb.asked, fun hp => by rw [h.cnt, if_neg (by omega)]; omega⟩, by omega⟩
theorem sim_done {s : CutS} {r : RCut} (h : Sim s r) : decide (r.pos = 9) = decide (s.nx = 7) := by
  have e := h.pos
  have := h.le
  by_cases c : s.nx = 7
  · rw [if_pos c] at e; simp [e, c]
  · rw [if_neg c] at e
    have : ¬ r.pos = 9 := by omega
    simp [this, c]
section
variable {W : World} {m b v : Nat} {th : Int} {most : Nat} {w : World} {next made : Nat} {cs : List Nat} {t : List Acc} {E : Nat → Prop} {p F : Nat} {q : Option Addr} {d : Nat} {l : List Nat} {s : CutS}
theorem KS.other {w' : World} {E' : Nat → Prop} (h : KS W m b v th most w next made cs t E p F q d l s) (c : Chg E w w') (hE : ∀ k, E' k → E k ∨ w.heap.size ≤ k) (hl : ∀ k, E' k → k < w'.heap.size) : KS W m b v th most w' next made cs t E' p F q d l s := by
  have hp : ∀ k, kD p q l k → ¬ E k := h.nE
  refine ⟨h.sb.grow (c.mono (fun k _ x => .inl x)) (fun k e => ?_) (fun k e => ?_), h.cut.chg c (hp p (.inl rfl)), h.row.chg c (fun bk off e hn => hp bk (.inr ⟨hn, off, e⟩)), h.ne, fun k hk e => ?_, h.bd, h.len⟩
  · rcases e with e | e
    · exact (hE k e).elim (fun x => .inl (.inl x)) .inr
    · exact .inl (.inr e)
  · rcases e with e | e
    · exact hl k e
    · have := h.sb.lt k (.inr e); have := c.size; omega
  · rcases hE k e with e1 | e1
    · exact hp k hk e1
    · have := h.sb.lt k (.inr hk); omega
end
section
variable {W : World} {R : Nat → Prop} {nm n next : Nat} {cs : List Nat} {t : List Acc} {p F : Nat} {q : Option Addr} {c : Nat} {l : List Nat} {r : RCut}
theorem RMem.kept2 {W W' : World} {R : Nat → Prop} {nm n next : Nat} {cs : List Nat} {l : List Acc} (h : RMem W R nm n next cs l) (hs : ∀ k, R k → k < W'.heap.size) (hk : ∀ k, R k → W'.heap[k]? = W.heap[k]?) : RMem W' R nm n next cs l := by
  obtain ⟨nc, av, os, h⟩ := h
  exact ⟨nc, av, os, (hk nm h.inn).trans h.blk, (hk nc h.inc).trans h.own, h.os, row_kept h.acc fun k e => hk k (h.ina k e), fun x hx => row_kept (h.vals x hx) fun k e => hk k (h.inv x hx k e), h.inn, h.inc, h.ina, h.inv, h.ne, hs, h.nn, h.small⟩
theorem RS.kept {W' : World} (h : RS W R nm n next cs t p F q c l r) (hs : ∀ k, R k → k < W'.heap.size) (hk : ∀ k, (R k ∨ k = p) → W'.heap[k]? = W.heap[k]?) (hu : U64At W' q l) : RS W' R nm n next cs t p F q c l r :=
  ⟨h.mem.kept2 hs (fun k e => hk k (.inl e)), (hk p (.inr rfl)).trans h.cut, hu, h.np, h.nq⟩
theorem RMem.row {W : World} {R : Nat → Prop} {nm n next : Nat} {cs : List Nat} {l : List Acc} (h : RMem W R nm n next cs l) : ∃ av, W.cell? ⟨nm, 2, none⟩ = some av ∧ W.ownsRow 0 77 8 av l.length (accRow l) ∧ R nm := by
  obtain ⟨nc, av, os, h⟩ := h
  exact ⟨av, cell_of h.blk 2, h.acc, h.inn⟩
end
/-- Both Cuts, behind some steps. -/
structure CAt (w2 : World) (m b v nm pc rp F : Nat) (q7 : Option Addr) (d7 : Nat) (q : Option Addr) (c : Nat) (l : List Nat) (x : World) (made : Nat) (cs : List Nat) (t : List Acc) (R : Nat → Prop) (s : CutS) (r : RCut) (k : Nat) : Prop where
  ks : KS w2 m b v 0 256 x 1 made cs t (fun k => R k ∨ k = rp) pc F q7 d7 l s
  rs : RS x R nm 256 1 cs t rp F q c l r
  sim : Sim s r
  bm : made ≤ 256 + k
  bt : t.length ≤ 256 + k
  bc : s.cnt ≤ k
  pl : Plain t
section
variable {w2 : World} {m b v nm pc rp F : Nat} {q7 : Option Addr} {d7 : Nat} {q : Option Addr} {c : Nat} {l : List Nat} {x : World} {made : Nat} {cs : List Nat} {t : List Acc} {R : Nat → Prop} {s : CutS} {r : RCut} {k : Nat}
theorem CAt.prog (h : CAt w2 m b v nm pc rp F q7 d7 q c l x made cs t R s r k) (hu : U64At w2 q l) (h6 : s.nx ≤ 6) (hk : k ≤ 300) :
    Calls Try.prog 15 #[.pointer (some ⟨pc, 0, none⟩), .pointer (some ⟨v, 0, none⟩)] x fun e y => e = .returned (.bool (decide ((kstep 0 F l 256 cs s).2.1.nx = 7))) ∧ KS w2 m b v 0 256 y 1 (made + 1) (kstep 0 F l 256 cs s).1 (t ++ [(kstep 0 F l 256 cs s).2.2]) (fun k => R k ∨ k = rp) pc F q7 d7 l (kstep 0 F l 256 cs s).2.1 ∧ RS y R nm 256 1 cs t rp F q c l r := by
  have b1 := h.bm
  have b2 := h.bt
  have b3 := h.bc
  refine (ks_step h.ks h6 (by omega) (by omega) (by omega)).mono ?_
  rintro e y ⟨rfl, K1, E1⟩
  refine ⟨rfl, K1, h.rs.kept ?_ E1 (hu.chg K1.sb.chg (fun _ _ _ _ x => x))⟩
  exact fun k e => K1.sb.lt k (.inl (.inl e))
theorem CAt.doc {y : World} {s' : CutS} {cs' : List Nat} {t' : List Acc} (K1 : KS w2 m b v 0 256 y 1 (made + 1) (kstep 0 F l 256 cs s).1 (t ++ [(kstep 0 F l 256 cs s).2.2]) (fun k => R k ∨ k = rp) pc F q7 d7 l (kstep 0 F l 256 cs s).2.1) (R1 : RS y R nm 256 1 cs t rp F q c l r) (hS : Sim s r) (hb : s.Bd) (h6 : s.nx ≤ 6) (b1 : made ≤ 256 + k) (b2 : t.length ≤ 256 + k) (b3 : s.cnt ≤ k) (hp : Plain t) (hk : k ≤ 300) :
    Calls Try.prog 16 #[.pointer (some ⟨rp, 0, none⟩), .pointer (some ⟨nm, 0, none⟩), .int .i64 0] y fun e z => e = .returned (.bool (decide ((kstep 0 F l 256 cs s).2.1.nx = 7))) ∧ ∃ R', CAt w2 m b v nm pc rp F q7 d7 q c l z (made + 1) (kstep 0 F l 256 cs s).1 (t ++ [(kstep 0 F l 256 cs s).2.2]) R' (kstep 0 F l 256 cs s).2.1 (rstep 0 F l 256 cs r).2.1 (k + 1) := by
  obtain ⟨bd, p6⟩ := sim_bd hS hb (by omega) h6
  obtain ⟨e1, e2, S2⟩ := sim_step (th := 0) (F := F) (l := l) (most := 256) (cs := cs) hS h6
  refine (rs_step R1 p6 bd K1.len (by omega) 0).mono ?_
  rintro e z ⟨rfl, R', R2, C2, N2⟩
  rw [e1, e2] at R2
  have c := kstep_cnt 0 F l 256 cs s
  have ac := kstep_acc 0 F l 256 cs s
  refine ⟨by rw [sim_done S2], R', K1.other C2 (fun k e => ?_) (fun k e => ?_), R2, S2, by omega, by simp only [List.length_append, List.length_singleton]; omega, by omega, hp.more ac.1 ac.2⟩
  · rcases e with e | e
    · exact (N2 k e).elim (fun x => .inl (.inl x)) .inr
    · exact .inl (.inr e)
  · rcases e with e | e
    · exact R2.mem.lt k e
    · rw [e]; exact lt_of R2.cut
theorem like_traces {W W' : World} {vv : Value} {l5 lk t : List Acc} (hT : Traced W W' vv l5 lk l5.length) (hb : l5.map Acc.bare = t) (hp : Plain t) : lk.length = t.length ∧ ∀ (i : Nat) (x y : Acc), lk[i]? = some x → t[i]? = some y → Like x y := by
  refine ⟨by rw [hT.len, ← hb]; simp, fun i x y hx hy => ?_⟩
  have hi : i < l5.length := by rw [← hT.len]; exact (List.getElem?_eq_some_iff.1 hx).1
  obtain ⟨z, hz⟩ : ∃ z, l5[i]? = some z := ⟨l5[i], List.getElem?_eq_getElem hi⟩
  obtain ⟨vs, hv⟩ := hT.same i z hz
  rw [hx] at hv
  simp only [Option.some.injEq] at hv
  have hy2 : y = z.bare := by
    rw [← hb, List.getElem?_map, hz] at hy
    simpa using hy.symm
  have pl := hp y (List.mem_of_getElem? hy)
  have hr := hT.vals i x hi hx
  obtain ⟨p, c, e⟩ := slice_of hr
  subst hy2
  subst hv
  have e0 : z.vals = [] := pl.1
  refine ⟨rfl, rfl, rfl, rfl, rfl, rfl, rfl, ⟨p, c, ?_⟩, none, 0, rfl⟩
  rw [e]
  simp [e0]
end
/-- Both memories behind some stores. -/
def VBt (w : World) (m b v nm : Nat) (k : Nat) (x : World) : Prop := ∃ cs R t, SB w m b v 0 256 x 1 k cs t R ∧ RMem x R nm 256 1 cs t ∧ t.length = k ∧ Plain t
end Go.Proofs.Ytciohnfbjaglbaa
