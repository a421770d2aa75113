/- The document's Cut beside the program's: one step of both. -/
import Derived.Test.YtciohnfbjaglbaaRMemB
import Derived.Test.YtciohnfbjaglbaaRb
namespace Go.Proofs.Ytciohnfbjaglbaa
open Go.RowKit Go.Shelf
set_option linter.unusedVariables false

def rstep (th : Int) (F : Nat) (l : List Nat) (most : Nat) (cs : List Nat) (r : RCut) : List Nat × RCut × Acc :=
  if r.pos = 0 then (cs, (if cellN cs r.obj = 0 then RCut.fin { r with pos := 1, x := cellN cs r.obj } else { r with pos := 1, x := cellN cs r.obj }), ⟨th, 1, r.obj, 0, 0, .slice none 0 0, [], cellN cs r.obj, false⟩)
  else if r.pos = 1 then (cs, { r with pos := 2, sx := if cellN cs (addP r.x 1) = 0 then 18446744073709551615 else cellN cs (addP r.x 1) }, ⟨th, 1, addP r.x 1, 0, 0, .slice none 0 0, [], cellN cs (addP r.x 1), false⟩)
  else if r.pos = 2 then (cs, { r with pos := 3, head := cellN cs r.x }, ⟨th, 1, r.x, 0, 0, .slice none 0 0, [], cellN cs r.x, false⟩)
  else if r.pos = 3 then (cs, (if cellN cs (addP r.x 2) = 0 then RCut.fin { r with pos := 4, y := cellN cs (addP r.x 2), y0 := cellN cs (addP r.x 2) } else { r with pos := 4, y := cellN cs (addP r.x 2), y0 := cellN cs (addP r.x 2) }), ⟨th, 1, addP r.x 2, 0, 0, .slice none 0 0, [], cellN cs (addP r.x 2), false⟩)
  else if r.pos = 4 then (cs, (if ndN F l (cellN cs (addP r.y 1)) r.sx = true then RCut.enough r (cellN cs (addP r.y 1)) else { r with pos := 5, cnt := r.cnt + 1 }), ⟨th, 1, addP r.y 1, 0, 0, .slice none 0 0, [], cellN cs (addP r.y 1), false⟩)
  else if r.pos = 5 then (cs, (if cellN cs (addP r.y 2) = 0 then RCut.enough { r with pos := 4, y := cellN cs (addP r.y 2) } 0 else { r with pos := 4, y := cellN cs (addP r.y 2) }), ⟨th, 1, addP r.y 2, 0, 0, .slice none 0 0, [], cellN cs (addP r.y 2), false⟩)
  else (stN most cs (addP r.x 2) r.y, (if r.y = 0 then RCut.fin { r with pos := 3 } else { r with pos := 3, x := r.y, sx := r.nx }), ⟨th, 2, addP r.x 2, r.y, 0, .slice none 0 0, [], 0, false⟩)

structure Sim (s : CutS) (r : RCut) : Prop where
  obj : r.obj = s.obj
  pos : r.pos = if s.nx = 7 then 9 else s.nx
  le : s.nx ≤ 7
  x : 1 ≤ s.nx → s.nx ≤ 6 → r.x = s.kept
  sx : 2 ≤ s.nx → s.nx ≤ 6 → r.sx = s.kst
  head : r.head = s.head
  y : 4 ≤ s.nx → s.nx ≤ 6 → r.y = s.asked ∧ r.y0 = s.first ∧ s.first ≠ 0
  ne : 4 ≤ s.nx → s.nx ≤ 5 → s.asked ≠ 0
  six : s.nx = 6 → s.asked ≠ s.first ∧ (s.asked ≠ 0 → r.nx = s.ast)
  cnt : r.cnt = s.cnt + if s.nx = 5 then 1 else 0
  told : s.nx = 7 → r.Cnt = s.cnt ∧ r.Hd = s.head
  not : s.nx ≠ 7 → r.Cnt = 0 ∧ r.Hd = 0
theorem sim_new (obj : Nat) : Sim (CutS.new obj) ⟨0, obj, 0, 0, 0, 0, 0, 0, 0, 0, 0⟩ := by
  constructor <;> simp [CutS.new]

theorem sim_step {th : Int} {F : Nat} {l : List Nat} {most : Nat} {cs : List Nat} {s : CutS} {r : RCut} (h : Sim s r) (h6 : s.nx ≤ 6) :
    (rstep th F l most cs r).1 = (kstep th F l most cs s).1 ∧ (rstep th F l most cs r).2.2 = (kstep th F l most cs s).2.2 ∧ Sim (kstep th F l most cs s).2.1 (rstep th F l most cs r).2.1 := by
  obtain ⟨obj, nx, head, cnt, kept, kst, first, asked, ast⟩ := s
  obtain ⟨pos, robj, x, sx, y, y0, rnx, rcnt, rhead, Cnt, Hd⟩ := r
  obtain ⟨e1, e2, e3, e4, e5, e6, e7, e8, e9, e10, e11, e12⟩ := h
  simp only at *
  subst e1 e6
  rcases (show nx = 0 ∨ nx = 1 ∨ nx = 2 ∨ nx = 3 ∨ nx = 4 ∨ nx = 5 ∨ nx = 6 by omega) with rfl | rfl | rfl | rfl | rfl | rfl | rfl
  · simp at e2 e10 e12
    obtain ⟨rfl, rfl⟩ := e12
    subst e2 e10
    by_cases c : cellN cs robj = 0
    · refine ⟨rfl, rfl, ?_⟩
      constructor <;> simp [kstep, rstep, RCut.fin, c]
    · refine ⟨rfl, rfl, ?_⟩
      constructor <;> simp [kstep, rstep, c]
  · simp at e2 e4 e10 e12
    obtain ⟨rfl, rfl⟩ := e12
    subst e2 e4 e10
    refine ⟨rfl, rfl, ?_⟩
    constructor <;> simp [kstep, rstep]
  · simp at e2 e4 e5 e10 e12
    obtain ⟨rfl, rfl⟩ := e12
    subst e2 e4 e5 e10
    refine ⟨rfl, rfl, ?_⟩
    constructor <;> simp [kstep, rstep]
  · simp at e2 e4 e5 e10 e12
    obtain ⟨rfl, rfl⟩ := e12
    subst e2 e4 e5 e10
    refine ⟨rfl, rfl, ?_⟩
    by_cases c : cellN cs (addP x 2) = 0
    · constructor <;> simp [kstep, rstep, RCut.fin, CutS.ask, CutS.join, CutS.goOn, c]
    · constructor <;> simp [kstep, rstep, CutS.ask, c]
  · simp at e2 e4 e5 e7 e8 e10 e12
    obtain ⟨rfl, rfl⟩ := e12
    obtain ⟨rfl, rfl, z⟩ := e7
    subst e2 e4 e5 e10
    refine ⟨rfl, rfl, ?_⟩
    by_cases c : ndN F l (cellN cs (addP y 1)) sx = true
    · by_cases d : y = y0
      · subst d
        constructor <;> simp [kstep, rstep, RCut.enough, CutS.join, CutS.goOn, c, e8]
      · constructor <;> simp [kstep, rstep, RCut.enough, CutS.join, c, d, e8, z]
    · constructor <;> simp [kstep, rstep, c, e8, z]
  · simp at e2 e4 e5 e7 e8 e10 e12
    obtain ⟨rfl, rfl⟩ := e12
    obtain ⟨rfl, rfl, z⟩ := e7
    subst e2 e4 e5 e10
    refine ⟨rfl, rfl, ?_⟩
    by_cases c : cellN cs (addP y 2) = 0
    · have z2 : ¬ 0 = y0 := fun x => z x.symm
      constructor <;> simp [kstep, rstep, RCut.enough, CutS.ask, CutS.join, c, z, z2]
    · constructor <;> simp [kstep, rstep, CutS.ask, c, z]
  · simp at e2 e4 e5 e7 e9 e10 e12
    obtain ⟨rfl, rfl⟩ := e12
    obtain ⟨rfl, rfl, z⟩ := e7
    subst e2 e4 e5 e10
    refine ⟨rfl, rfl, ?_⟩
    by_cases c : y = 0
    · subst c
      constructor <;> simp [kstep, rstep, RCut.fin, CutS.goOn]
    · have e := e9.2 c
      subst e
      constructor <;> simp [kstep, rstep, CutS.goOn, c]

structure RCut.Bd (r : RCut) : Prop where
  obj : r.pos = 0 → r.obj < 18446744073709551616
  x : r.pos = 2 → r.x < 18446744073709551616
  y : r.pos = 6 → r.y < 18446744073709551616
  cnt : r.pos = 4 → r.cnt + 1 < 18446744073709551616
/-- The document's memory and Cut. -/
structure RS (W : World) (R : Nat → Prop) (nm n next : Nat) (cs : List Nat) (t : List Acc) (p F : Nat) (q : Option Addr) (c : Nat) (l : List Nat) (r : RCut) : Prop where
  mem : RMem W R nm n next cs t
  cut : IsRC W p F (.slice q l.length c) r
  row : U64At W q l
  np : ¬ R p
  nq : ∀ bk off, q = some ⟨bk, off, none⟩ → l ≠ [] → ¬ R bk ∧ bk ≠ p
section
variable {W : World} {R : Nat → Prop} {nm n next : Nat} {cs : List Nat} {t : List Acc} {p F : Nat} {q : Option Addr} {c : Nat} {l : List Nat} {r : RCut}
theorem RS.went {W' : World} {R' : Nat → Prop} {cs' : List Nat} {t' : List Acc} (h : RS W R nm n next cs t p F q c l r) (M : RMem W' R' nm n next cs' t') (G : Goes W W' R R') : RS W' R' nm n next cs' t' p F q c l r :=
  ⟨M, h.cut.chg G.chg h.np, h.row.chg G.chg (fun bk off e hn => (h.nq bk off e hn).1), fun x => (G.new p x).elim h.np (fun y => by have := lt_of h.cut; omega), fun bk off e hn => ⟨fun x => (G.new bk x).elim (h.nq bk off e hn).1 (fun y => by
    rcases h.row with z | ⟨bk', off', e', hb, _⟩
    · exact hn z
    · rw [e] at e'
      simp only [Option.some.injEq, Addr.mk.injEq] at e'
      omega), (h.nq bk off e hn).2⟩⟩
theorem RS.fin {W' : World} {r' : RCut} (h : RS W R nm n next cs t p F q c l r) (C : Chg (fun k => k = p) W W') (hc : IsRC W' p F (.slice q l.length c) r') : RS W' R nm n next cs t p F q c l r' :=
  ⟨h.mem.chg C (fun k hk e => h.np (e ▸ hk)), hc, h.row.chg C (fun bk off e hn => (h.nq bk off e hn).2), h.np, h.nq⟩
theorem rs_step (h : RS W R nm n next cs t p F q c l r) (h6 : r.pos ≤ 6) (hb : r.Bd) (hl : l.length < 4611686018427387904) (ht : t.length < 1099511627776) (th : Int) :
    Calls Try.prog 16 #[.pointer (some ⟨p, 0, none⟩), .pointer (some ⟨nm, 0, none⟩), .int .i64 th] W fun e W' => e = .returned (.bool (decide ((rstep th F l n cs r).2.1.pos = 9))) ∧ ∃ R', RS W' R' nm n next (rstep th F l n cs r).1 (t ++ [(rstep th F l n cs r).2.2]) p F q c l (rstep th F l n cs r).2.1 ∧ Chg (fun k => R k ∨ k = p) W W' ∧ ∀ k, R' k → R k ∨ W.heap.size ≤ k := by
  obtain ⟨pos, obj, x, sx, y, y0, nx, cnt, head, Cnt, Hd⟩ := r
  obtain ⟨b1, b2, b3, b4⟩ := hb
  simp only at h6 b1 b2 b3 b4
  have hld : ∀ a : Nat, a < 18446744073709551616 → Calls Try.prog 38 #[.pointer (some ⟨nm, 0, none⟩), .int .i64 th, .int .u64 (a : Int)] W fun e w => e = .returned (.int .u64 (cellN cs a : Int)) ∧ ∃ R', RS w R' nm n next cs (t ++ [⟨th, 1, a, 0, 0, .slice none 0 0, [], cellN cs a, false⟩]) p F q c l ⟨pos, obj, x, sx, y, y0, nx, cnt, head, Cnt, Hd⟩ ∧ Goes W w R R' := fun a ha => by
    refine (r_load nm n next a th R cs t W h.mem ht ha).mono ?_
    rintro e w ⟨rfl, R', M, G⟩
    exact ⟨rfl, R', h.went M G, G⟩
  have hst : ∀ a v : Nat, a < 18446744073709551616 → v < 18446744073709551616 → Calls Try.prog 13 #[.pointer (some ⟨nm, 0, none⟩), .int .i64 th, .int .u64 (a : Int), .int .u64 (v : Int)] W.drew fun e w => e = .returned (.tuple #[]) ∧ ∃ R', RS w R' nm n next (stN n cs a v) (t ++ [⟨th, 2, a, v, 0, .slice none 0 0, [], 0, false⟩]) p F q c l ⟨pos, obj, x, sx, y, y0, nx, cnt, head, Cnt, Hd⟩ ∧ Goes W w R R' := fun a v ha hv => by
    refine (r_store nm n next a v th R cs t W.drew (h.mem.chg ((Chg.refl (fun _ => False) W).drew) (fun _ _ x => x)) ht ha hv).mono ?_
    rintro e w ⟨rfl, R', M, G⟩
    have G2 : Goes W w R R' := ⟨⟨G.chg.os, G.chg.tape, G.chg.output, G.chg.size, G.chg.block⟩, G.new⟩
    exact ⟨rfl, R', h.went M G2, G2⟩
  have fine : ∀ {w w' : World} {R' : Nat → Prop} {cs' : List Nat} {t' : List Acc} {r' : RCut}, RS w R' nm n next cs' t' p F q c l ⟨pos, obj, x, sx, y, y0, nx, cnt, head, Cnt, Hd⟩ → Goes W w R R' → Chg (fun k => k = p) w w' → IsRC w' p F (.slice q l.length c) r' → ∃ R', RS w' R' nm n next cs' t' p F q c l r' ∧ Chg (fun k => R k ∨ k = p) W w' ∧ ∀ k, R' k → R k ∨ W.heap.size ≤ k := fun {w w' R' cs' t' r'} hr G C hc =>
    ⟨R', hr.fin C hc, G.chg.trans C (fun _ _ x => .inl x) (fun _ _ x => .inr x), G.new⟩
  rcases (show pos = 0 ∨ pos = 1 ∨ pos = 2 ∨ pos = 3 ∨ pos = 4 ∨ pos = 5 ∨ pos = 6 by omega) with rfl | rfl | rfl | rfl | rfl | rfl | rfl
  · refine (rc_0 p F _ _ th obj x sx y y0 nx cnt head Cnt Hd W h.cut _ _ (hld obj (b1 rfl)) (fun w hw => by obtain ⟨R', hr, _⟩ := hw; exact hr.cut)).mono ?_
    rintro e w' ⟨rfl, hc, w, ⟨R', hr, G⟩, C⟩
    refine ⟨?_, fine hr G C hc⟩
    by_cases e : cellN cs obj = 0 <;> simp [rstep, e, RCut.fin]
  · refine (rc_1 p F _ _ th obj x sx y y0 nx cnt head Cnt Hd W h.cut _ (wrap_addP1 x) _ _ (hld _ (addP_lt _ _)) (fun w hw => by obtain ⟨R', hr, _⟩ := hw; exact hr.cut)).mono ?_
    rintro e w' ⟨rfl, hc, w, ⟨R', hr, G⟩, C⟩
    exact ⟨by simp [rstep], fine hr G C hc⟩
  · refine (rc_2 p F _ _ th obj x sx y y0 nx cnt head Cnt Hd W h.cut _ _ (hld x (b2 rfl)) (fun w hw => by obtain ⟨R', hr, _⟩ := hw; exact hr.cut)).mono ?_
    rintro e w' ⟨rfl, hc, w, ⟨R', hr, G⟩, C⟩
    exact ⟨by simp [rstep], fine hr G C hc⟩
  · refine (rc_3 p F _ _ th obj x sx y y0 nx cnt head Cnt Hd W h.cut _ (wrap_addP2 x) _ _ (hld _ (addP_lt _ _)) (fun w hw => by obtain ⟨R', hr, _⟩ := hw; exact hr.cut)).mono ?_
    rintro e w' ⟨rfl, hc, w, ⟨R', hr, G⟩, C⟩
    refine ⟨?_, fine hr G C hc⟩
    by_cases e : cellN cs (addP x 2) = 0 <;> simp [rstep, e, RCut.fin]
  · by_cases hnd : ndN F l (cellN cs (addP y 1)) sx = true
    · have e0 : (rstep th F l n cs ⟨4, obj, x, sx, y, y0, nx, cnt, head, Cnt, Hd⟩).2.1 = RCut.enough ⟨4, obj, x, sx, y, y0, nx, cnt, head, Cnt, Hd⟩ (cellN cs (addP y 1)) := by simp [rstep, hnd]
      rw [e0]
      refine (rc_4T p F q c l _ th obj x sx y y0 nx cnt head Cnt Hd W h.cut hl _ (wrap_addP1 y) _ _ (hld _ (addP_lt _ _)) (fun w hw => by obtain ⟨R', hr, _⟩ := hw; exact ⟨hr.cut, hr.row, fun bk off e hn => (hr.nq bk off e hn).2⟩) hnd _ rfl).mono ?_
      rintro e w' ⟨rfl, hc, w, ⟨R', hr, G⟩, C⟩
      exact ⟨rfl, fine hr G C hc⟩
    · have e0 : (rstep th F l n cs ⟨4, obj, x, sx, y, y0, nx, cnt, head, Cnt, Hd⟩).2.1 = ⟨5, obj, x, sx, y, y0, nx, cnt + 1, head, Cnt, Hd⟩ := by simp [rstep, hnd]
      rw [e0]
      refine (rc_4F p F q c l _ th obj x sx y y0 nx cnt head Cnt Hd W h.cut hl _ (wrap_addP1 y) _ _ (hld _ (addP_lt _ _)) (fun w hw => by obtain ⟨R', hr, _⟩ := hw; exact ⟨hr.cut, hr.row, fun bk off e hn => (hr.nq bk off e hn).2⟩) (by simpa using hnd) (cnt + 1) (by have := b4 rfl; rw [IntKind.wrap_u64]; omega)).mono ?_
      rintro e w' ⟨rfl, hc, w, ⟨R', hr, G⟩, C⟩
      exact ⟨rfl, fine hr G C hc⟩
  · by_cases hz : cellN cs (addP y 2) = 0
    · have e0 : (rstep th F l n cs ⟨5, obj, x, sx, y, y0, nx, cnt, head, Cnt, Hd⟩).2.1 = RCut.enough ⟨4, obj, x, sx, cellN cs (addP y 2), y0, nx, cnt, head, Cnt, Hd⟩ 0 := by simp [rstep, hz]
      rw [e0]
      refine (rc_5T p F _ _ th obj x sx y y0 nx cnt head Cnt Hd W h.cut _ (wrap_addP2 y) _ _ hz rfl _ (hld _ (addP_lt _ _)) (fun w hw => by obtain ⟨R', hr, _⟩ := hw; exact hr.cut)).mono ?_
      rintro e w' ⟨rfl, hc, w, ⟨R', hr, G⟩, C⟩
      exact ⟨rfl, fine hr G C hc⟩
    · have e0 : (rstep th F l n cs ⟨5, obj, x, sx, y, y0, nx, cnt, head, Cnt, Hd⟩).2.1 = ⟨4, obj, x, sx, cellN cs (addP y 2), y0, nx, cnt, head, Cnt, Hd⟩ := by simp [rstep, hz]
      rw [e0]
      refine (rc_5F p F _ _ th obj x sx y y0 nx cnt head Cnt Hd W h.cut _ (wrap_addP2 y) _ _ (hld _ (addP_lt _ _)) (fun w hw => by obtain ⟨R', hr, _⟩ := hw; exact hr.cut) hz).mono ?_
      rintro e w' ⟨rfl, hc, w, ⟨R', hr, G⟩, C⟩
      exact ⟨rfl, fine hr G C hc⟩
  · refine (rc_6 p F _ _ th obj x sx y y0 nx cnt head Cnt Hd W h.cut _ (wrap_addP2 x) _ (hst _ _ (addP_lt _ _) (b3 rfl)) (fun w hw => by obtain ⟨R', hr, _⟩ := hw; exact hr.cut)).mono ?_
    rintro e w' ⟨rfl, hc, w, ⟨R', hr, G⟩, C⟩
    refine ⟨?_, fine hr G C hc⟩
    by_cases e : y = 0 <;> simp [rstep, e, RCut.fin]
end
end Go.Proofs.Ytciohnfbjaglbaa
