/- The document's runner: an access is made; a thread is told. -/
import Derived.Test.YtnhiodmigmmfgaaGreatO10YE
import Derived.Test.YtnhiodmigmmfgaaGreatO6Yc
import Derived.Test.YtnhiodmigmmfgaaGreatO7Y6
import Derived.Test.YtnhiodmigmmfgaaGreatO4SNew
namespace Go.Proofs.YtnhiodmigmmfgaaGreat
open Go.RowKit Go.Shelf
set_option linter.unusedVariables false

section
variable {X Y : World} {B : Nat} {tg : Nat → Nat} {r nm T st gc ga gg : Nat} {p : Option Addr} {c8 : Nat} {ev wv : Value} {es : List Ev} {ws : List Int} {gv : Nat → Value} {gl : Nat → List Nat} {R : Nat → Prop} {m : Mu} {t : List Acc} {call at_ : Nat → Nat}
theorem valR_set (f : Nat → Value) (T i : Nat) (v : Value) : (valR f T).setIfInBounds i v = valR (fun j => if j = i then v else f j) T := by
  apply Array.ext'
  apply List.ext_getElem?
  intro j
  simp only [valR, Array.toList_setIfInBounds, List.getElem?_set, List.getElem?_map]
  by_cases hj : j < T
  · rw [List.getElem?_range hj]
    by_cases e : i = j
    · subst e; simp [hj]
    · have e' : ¬ j = i := fun z => e z.symm
      rw [if_neg e]
      simp [e']
  · have hr : (List.range T)[j]? = none := List.getElem?_eq_none (by simp; omega)
    rw [hr]
    by_cases e : i = j
    · subst e; simp [hj]
    · rw [if_neg e]; rfl
open Classical in
/-- An access of the document's memory. -/
theorem D4At.made (h : D4At X B tg r nm T st gc ga gg p c8 ev wv es ws gv gl R m t call at_) {R' : Nat → Prop} {m' : Mu} {t' : List Acc} (hR : RM Y R' nm 200 m'.next m'.cs t') (g : Goes X Y R R') (hB : B ≤ X.heap.size) (ht : t.length ≤ t'.length ∧ t'.length ≤ st + 1) (hm : m'.next ≤ 200) :
    D4At Y B (fun k => if k < X.heap.size then tg k else if R' k then 7 else 0) r nm T st gc ga gg p c8 ev wv es ws gv gl R' m' t' call at_ := by
  have sz := g.chg.size
  have lt : ∀ k, tg k ≠ 0 → k < X.heap.size := fun k e => (h.lo k e).2
  have ky : ∀ k, tg k ≠ 0 → tg k ≠ 7 → Y.heap[k]? = X.heap[k]? := fun k e e7 => g.chg.block k (lt k e) (fun q => e7 (h.tR k q))
  have old : ∀ k, tg k ≠ 0 → (fun k => if k < X.heap.size then tg k else if R' k then 7 else 0) k = tg k := fun k e => by simp only [if_pos (lt k e)]
  obtain ⟨b1, b2, b3, b4, b5, b6⟩ := h.bd
  refine ⟨(ky r (by rw [h.tr]; decide) (by rw [h.tr]; decide)).trans h.blk, (ky gc (by rw [h.tc]; decide) (by rw [h.tc]; decide)).trans h.cb, (ky ga (by rw [h.ta]; decide) (by rw [h.ta]; decide)).trans h.ab, (ky gg (by rw [h.tG]; decide) (by rw [h.tG]; decide)).trans h.gb, row_kept h.er (fun k e => ky k (by rw [h.te k e]; decide) (by rw [h.te k e]; decide)), row_kept h.wr (fun k e => ky k (by rw [h.tw k e]; decide) (by rw [h.tw k e]; decide)), fun i hi => row_kept (h.gr i hi) (fun k e => ky k (by rw [h.tg_ i k hi e]; omega) (by rw [h.tg_ i k hi e]; omega)), hR, ?_, ?_, ?_, ?_, fun k e => ?_, fun k e => ?_, fun k e => ?_, fun i k hi e => ?_, fun k e => ?_, ⟨b1, by omega, b3, ht.2, hm, b6⟩⟩
  · exact (old r (by rw [h.tr]; decide)).trans h.tr
  · exact (old gc (by rw [h.tc]; decide)).trans h.tc
  · exact (old ga (by rw [h.ta]; decide)).trans h.ta
  · exact (old gg (by rw [h.tG]; decide)).trans h.tG
  · exact (old k (by rw [h.te k e]; decide)).trans (h.te k e)
  · exact (old k (by rw [h.tw k e]; decide)).trans (h.tw k e)
  · by_cases hk : k < X.heap.size
    · simp only [if_pos hk]
      rcases g.new k e with q | q
      · exact h.tR k q
      · omega
    · simp only [if_neg hk, if_pos e]
  · exact (old k (by rw [h.tg_ i k hi e]; omega)).trans (h.tg_ i k hi e)
  · by_cases hk : k < X.heap.size
    · simp only [if_pos hk] at e
      exact ⟨(h.lo k e).1, by omega⟩
    · simp only [if_neg hk] at e
      split at e
      · rename_i q; exact ⟨by omega, hR.lt k q⟩
      · exact absurd rfl e
/-- A thread is told a number. -/
theorem D4At.told (h : D4At X B tg r nm T st gc ga gg p c8 ev wv es ws gv gl R m t call at_) (i : Nat) (hi : i < T) {v' : Value} {x : Nat} {o : Obj} (r1 : Y.ownsRow 0 75 1 v' ((gl i).length + 1) ((gl i).map u64V ++ [.int .u64 (x : Int)])) (r2 : (X.alloc o).grownBy Y (gv i).ownBlock) (r4 : v'.ownBlock = (gv i).ownBlock ∨ v'.ownBlock = some (X.alloc o).heap.size) (hB : B ≤ X.heap.size) (hl : (gl i).length + 1 ≤ st) :
    D4At (Y.setCell ⟨gg, i, none⟩ v') B (fun k => if k < X.heap.size then tg k else if v'.ownBlock = some k then 8 + i else 0) r nm T st gc ga gg p c8 ev wv es ws (fun j => if j = i then v' else gv j) (fun j => if j = i then gl i ++ [x] else gl j) R m t call at_ := by
  have c : Chg (fun k => (gv i).ownBlock = some k) X Y := ((Chg.refl (fun k => (gv i).ownBlock = some k) X).alloc o).grown r2 (fun k e _ => e)
  have sz := c.size
  have lt : ∀ k, tg k ≠ 0 → k < X.heap.size := fun k e => (h.lo k e).2
  have ky : ∀ k, tg k ≠ 0 → tg k ≠ 8 + i → Y.heap[k]? = X.heap[k]? := fun k e e8 => c.block k (lt k e) (fun q => e8 (h.tg_ i k hi q))
  have kz : ∀ k, tg k ≠ 0 → tg k ≠ 8 + i → tg k ≠ 4 → (Y.setCell ⟨gg, i, none⟩ v').heap[k]? = X.heap[k]? := fun k e e8 e4 => (Below.heap_setCell _ _ _ k (fun q => e4 (by rw [show k = gg from q]; exact h.tG))).trans (ky k e e8)
  have wlt : ∀ k, v'.ownBlock = some k → k < Y.heap.size := fun k e => row_lt r1 k e
  have wr_ : ∀ k, v'.ownBlock = some k → k < X.heap.size → tg k = 8 + i := fun k e hk => by
    rcases r4 with q | q
    · exact h.tg_ i k hi (q ▸ e)
    · rw [q] at e; simp at e; omega
  have old : ∀ k, tg k ≠ 0 → (fun k => if k < X.heap.size then tg k else if v'.ownBlock = some k then 8 + i else 0) k = tg k := fun k e => by simp only [if_pos (lt k e)]
  obtain ⟨l, ⟨nc, av, os, hl1⟩, hl2⟩ := h.rm
  obtain ⟨b1, b2, b3, b4, b5, b6⟩ := h.bd
  have hszz : (Y.setCell ⟨gg, i, none⟩ v').heap.size = Y.heap.size := by simp [World.setCell]
  have kx : ∀ k x, tg k = x → x ≠ 0 → x ≠ 8 + i → x ≠ 4 → (Y.setCell ⟨gg, i, none⟩ v').heap[k]? = X.heap[k]? := fun k x e a1 a2 a3 => kz k (by omega) (by omega) (by omega)
  refine ⟨(kx r 1 h.tr (by omega) (by omega) (by omega)).trans h.blk, (kx gc 2 h.tc (by omega) (by omega) (by omega)).trans h.cb, (kx ga 3 h.ta (by omega) (by omega) (by omega)).trans h.ab, ?_, row_kept h.er (fun k e => kx k 5 (h.te k e) (by omega) (by omega) (by omega)), row_kept h.wr (fun k e => kx k 6 (h.tw k e) (by omega) (by omega) (by omega)), fun j hj => ?_, ⟨l, ⟨nc, av, os, hl1.kept (by rw [hszz]; exact sz) (fun k e => kx k 7 (h.tR k e) (by omega) (by omega) (by omega))⟩, hl2⟩, ?_, ?_, ?_, ?_, fun k e => ?_, fun k e => ?_, fun k e => ?_, fun j k hj e => ?_, fun k e => ?_, ⟨b1, b2, fun j hj => ?_, b4, b5, b6⟩⟩
  · have hb : Y.heap[gg]? = _ := (ky gg (by rw [h.tG]; decide) (by rw [h.tG]; omega)).trans h.gb
    rw [set_of hb i v', valR_set]
  · by_cases e : j = i
    · subst e
      simp only [if_true]
      have e1 : Y.ownsRow 0 75 1 v' (gl j ++ [x]).length ((gl j ++ [x]).map u64V) := by simpa [u64V] using r1
      refine row_kept e1 (fun k e => Below.heap_setCell _ _ _ k (fun q => ?_))
      have q2 : k = gg := q
      have : k < X.heap.size := by rw [q2]; exact lt gg (by rw [h.tG]; decide)
      have := wr_ k e this
      rw [q2, h.tG] at this
      omega
    · simp only [if_neg e]
      exact row_kept (h.gr j hj) (fun k q => kx k (8 + j) (h.tg_ j k hj q) (by omega) (by omega) (by omega))
  · exact (old r (by rw [h.tr]; decide)).trans h.tr
  · exact (old gc (by rw [h.tc]; decide)).trans h.tc
  · exact (old ga (by rw [h.ta]; decide)).trans h.ta
  · exact (old gg (by rw [h.tG]; decide)).trans h.tG
  · exact (old k (by rw [h.te k e]; decide)).trans (h.te k e)
  · exact (old k (by rw [h.tw k e]; decide)).trans (h.tw k e)
  · exact (old k (by rw [h.tR k e]; decide)).trans (h.tR k e)
  · by_cases ej : j = i
    · subst ej
      simp only [if_true] at e
      by_cases hk : k < X.heap.size
      · simp only [if_pos hk]; exact wr_ k e hk
      · simp only [if_neg hk, if_pos e]
    · simp only [if_neg ej] at e
      exact (old k (by rw [h.tg_ j k hj e]; omega)).trans (h.tg_ j k hj e)
  · rw [hszz]
    by_cases hk : k < X.heap.size
    · simp only [if_pos hk] at e
      exact ⟨(h.lo k e).1, by omega⟩
    · simp only [if_neg hk] at e
      split at e
      · rename_i q; exact ⟨by omega, wlt k q⟩
      · exact absurd rfl e
  · by_cases ej : j = i
    · subst ej; simp only [if_true]; simp; omega
    · simp only [if_neg ej]; exact b3 j hj
end
end Go.Proofs.YtnhiodmigmmfgaaGreat
/- The document's Pick: a thread that has nothing to do. -/
namespace Go.Proofs.YtnhiodmigmmfgaaGreat
open Go.RowKit Go.Shelf
set_option linter.unusedVariables false

set_option maxRecDepth 100000 in
theorem d4x_pick_no {X : World} {B r nm T : Nat} {p : Option Addr} {c8 : Nat} {s : R4S} {K : Nat → Prop} (h : D4x X B r nm T p c8 s K) {ll : List (List PlP)} {ap : Nat → Option Addr} {ac : Nat → Nat} {lp : Nat → Nat → Option Addr} {lc : Nat → Nat → Nat} (hP : ThsAt X B p ll ap ac lp lc) (hT : ll.length = T) (cl : Nat → Nat) (hcl : ∀ i l, ll[i]? = some l → l.length = cl i) (th : Int) (hst : s.st ≤ 16777216) (hc : ¬ (0 ≤ th ∧ th < (T : Int) ∧ s.call th.toNat < cl th.toNat)) :
    Calls Tryz.prog 9 #[.pointer (some ⟨r, 0, none⟩), .int .i64 th] X fun e Y => e = .returned (.bool false) ∧ D4x Y B r nm T p c8 { s with st := s.st + 1 } K ∧ Chg K X Y := by
  obtain ⟨st, call, at_, es, ws, gl, m, t⟩ := s
  obtain ⟨tg, gc, ga, gg, ev, wv, gv, R, h, hK⟩ := h
  simp only at h hst hc ⊢
  have c4 : X.cell? ⟨r, 4, none⟩ = some (.int .i64 (st : Int)) := cell_of h.blk 4
  have f4 := free_of h.blk 4
  obtain ⟨s1, hs1⟩ : ∃ s1, s1 = st + 1 := ⟨_, rfl⟩
  have e1 : IntKind.i64.wrap ((st : Int) + 1) = (s1 : Int) := by rw [IntKind.wrap_i64]; omega
  have e2 : (st : Int) + 1 = (s1 : Int) := by omega
  have hr : B ≤ r := (h.lo r (by rw [h.tr]; decide)).1
  have HD : Hid (D4 (X.setCell ⟨r, 4, none⟩ (.int .i64 (s1 : Int))) B r nm T s1 p c8 call at_ K) := ⟨tg, gc, ga, gg, ev, wv, es, ws, gv, gl, R, m, t, h.setSt s1 (by omega), hK⟩
  have HDX : Hid (D4x (X.setCell ⟨r, 4, none⟩ (.int .i64 (s1 : Int))) B r nm T p c8 ⟨s1, call, at_, es, ws, gl, m, t⟩ K) := ⟨tg, gc, ga, gg, ev, wv, gv, R, h.setSt s1 (by omega), hK⟩
  have HCH : Hid (Chg K X (X.setCell ⟨r, 4, none⟩ (.int .i64 (s1 : Int)))) := (Chg.refl K X).setCell (p := ⟨r, 4, none⟩) (fun _ => hK r (by rw [h.tr]; decide)) _
  have HPP : Hid (ThsAt (X.setCell ⟨r, 4, none⟩ (.int .i64 (s1 : Int))) B p ll ap ac lp lc) := hP.low (fun k hk => Below.heap_setCell _ _ _ k (fun q => by have q2 : k = r := q; omega))
  have HLF := keepH (d4_left HD.out HPP.out hT cl hcl th)
  rw [decide_eq_false hc] at HLF
  have HS1 := keepH hs1
  clear h hK hP hcl hc hs1
  go_enter Tryz.func9, Tryz.ntmps9
  go_wp2_with fail
  refine HLF.out.mono ?_
  rintro e w1 ⟨rfl, q, hw1⟩
  have HW1 := keepH hw1
  clear hw1
  go_wp2_with fail
  go_ret
  refine ⟨by simp, ?_, ?_⟩
  · rw [HW1.out, ← HS1.out]
    exact HDX.out.keep (Nat.le_refl _) (fun k _ => rfl)
  · rw [HW1.out]
    exact HCH.out.trans (drewN_chgY _ _) (fun _ _ x => x) (fun _ _ x => x.elim)
end Go.Proofs.YtnhiodmigmmfgaaGreat
/- The document's runner, told whole: a pure pick; what stays between its parts. -/
namespace Go.Proofs.YtnhiodmigmmfgaaGreat
open Go.RowKit Go.Shelf
set_option linter.unusedVariables false

def dopOf (q : PlP) (a : Nat) : Option DoP := if q.none = true then none else q.L[a]?
def R4S.pick (s : R4S) (i : Nat) (q : PlP) : R4S where
  st := s.st + 1
  call := fun j => if j = i then (if nst q ≤ s.at_ i + 1 then s.call i + 1 else s.call i) else s.call j
  at_ := fun j => if j = i then (if nst q ≤ s.at_ i + 1 then 0 else s.at_ i + 1) else s.at_ j
  es := (if s.at_ i = 0 then s.es ++ [⟨(s.st : Int), (i : Int), (s.call i : Int), false⟩] else s.es) ++ (if nst q ≤ s.at_ i + 1 then [⟨(s.st : Int), (i : Int), (s.call i : Int), true⟩] else [])
  ws := s.ws ++ (nxtT (i : Int) 200 s.m (dopOf q (s.at_ i))).map (fun _ => (s.st : Int))
  gl := fun j => if j = i then s.gl i ++ nxtG 200 s.m (dopOf q (s.at_ i)) else s.gl j
  m := nxtM 200 s.m (dopOf q (s.at_ i))
  t := s.t ++ nxtT (i : Int) 200 s.m (dopOf q (s.at_ i))
/-- What stays beside the runner's own while it picks. -/
structure DM (X wx : World) (B : Nat) (tg : Nat → Nat) (K : Nat → Prop) (pb : Nat) (ob : Obj) : Prop where
  inK : ∀ k, tg k ≠ 0 → K k ∨ X.heap.size ≤ k
  tp : tg pb = 0
  chg : Chg K X wx
  plan : wx.heap[pb]? = some ob
  low : ∀ k, k < B → wx.heap[k]? = X.heap[k]?
  bx : B ≤ X.heap.size
theorem DM.next {X wx wy : World} {B : Nat} {tg tg' : Nat → Nat} {K G : Nat → Prop} {pb : Nat} {ob : Obj} (h : DM X wx B tg K pb ob) (g : Chg G wx wy) (hG : ∀ k, k < wx.heap.size → G k → tg k ≠ 0) (hlo : ∀ k, tg k ≠ 0 → B ≤ k) (ht : ∀ k, k < wx.heap.size → tg' k = tg k) : DM X wy B tg' K pb ob := by
  have s1 := h.chg.size
  have lp : pb < wx.heap.size := (Array.getElem?_eq_some_iff.1 h.plan).1
  refine ⟨fun k e => ?_, by rw [ht pb lp]; exact h.tp, h.chg.trans g (fun _ _ x => x) (fun k hk x => ?_), (g.block pb lp (fun x => hG pb lp x h.tp)).trans h.plan, fun k hk => (g.block k (by have := h.bx; omega) (fun x => ?_)).trans (h.low k hk), h.bx⟩
  · by_cases hk : k < wx.heap.size
    · rw [ht k hk] at e; exact h.inK k e
    · exact .inr (by omega)
  · rcases h.inK k (hG k (by omega) x) with q | q
    · exact q
    · omega
  · have := hlo k (hG k (by have := h.bx; omega) x); omega
theorem D4x.of {X Y : World} {B : Nat} {tg : Nat → Nat} {r nm T gc ga gg : Nat} {p : Option Addr} {c8 : Nat} {ev wv : Value} {gv : Nat → Value} {R : Nat → Prop} {s : R4S} {K : Nat → Prop} {pb : Nat} {ob : Obj} (h : D4At Y B tg r nm T s.st gc ga gg p c8 ev wv s.es s.ws gv s.gl R s.m s.t s.call s.at_) (d : DM X Y B tg K pb ob) : ∃ K', D4x Y B r nm T p c8 s K' ∧ Goes X Y K K' :=
  ⟨fun k => k < Y.heap.size ∧ (K k ∨ X.heap.size ≤ k), ⟨tg, gc, ga, gg, ev, wv, gv, R, h, fun k e => ⟨(h.lo k e).2, d.inK k e⟩⟩, ⟨d.chg, fun k e => e.2⟩⟩
theorem DM.up {X wx wy : World} {B : Nat} {tg : Nat → Nat} {K : Nat → Prop} {pb : Nat} {ob : Obj} (h : DM X wx B tg K pb ob) (g : Chg (fun _ => False) wx wy) : DM X wy B tg K pb ob :=
  ⟨h.inK, h.tp, h.chg.trans g (fun _ _ x => x) (fun _ _ x => x.elim), (g.block pb ((Array.getElem?_eq_some_iff.1 h.plan).1) (fun x => x)).trans h.plan, fun k hk => (g.block k (by have := h.bx; have := h.chg.size; omega) (fun x => x)).trans (h.low k hk), h.bx⟩
theorem D4At.up {X Y : World} {B : Nat} {tg : Nat → Nat} {r nm T st gc ga gg : Nat} {p : Option Addr} {c8 : Nat} {ev wv : Value} {es : List Ev} {ws : List Int} {gv : Nat → Value} {gl : Nat → List Nat} {R : Nat → Prop} {m : Mu} {t : List Acc} {call at_ : Nat → Nat} (h : D4At X B tg r nm T st gc ga gg p c8 ev wv es ws gv gl R m t call at_) (g : Chg (fun _ => False) X Y) : D4At Y B tg r nm T st gc ga gg p c8 ev wv es ws gv gl R m t call at_ :=
  h.keep g.size (fun k e => g.block k (h.lo k e).2 (fun x => x))
end Go.Proofs.YtnhiodmigmmfgaaGreat
/- The document's runner: a thread is told what its access told, beside what stays. -/

namespace Go.Proofs.YtnhiodmigmmfgaaGreat
open Go.RowKit Go.Shelf
set_option linter.unusedVariables false

theorem RM.tcell {W : World} {R : Nat → Prop} {nm most next : Nat} {cs : List Nat} {t : List Acc} (h : RM W R nm most next cs t) : ∃ p c, W.cell? ⟨nm, 2, none⟩ = some (.slice p t.length c) := by
  obtain ⟨l, ⟨nc, av, os, h⟩, e⟩ := h
  obtain ⟨p, c, rfl⟩ := slice_of h.acc
  have e2 : l.length = t.length := by rw [← e]; simp
  exact ⟨p, c, by rw [cell_of h.blk 2, ← e2]; rfl⟩
theorem valR_get {f : Nat → Value} {T i : Nat} (h : i < T) : (valR f T)[i]? = some (f i) := by simp [valR, h]
theorem nst_done (q : PlP) (a : Nat) : decide (nst q ≤ a + 1) = (q.none || decide (q.L.length ≤ a + 1)) := by
  unfold nst
  cases q.none with
  | true => simp
  | false =>
    simp only [Bool.false_eq_true, if_false, Bool.false_or]
    split
    · rename_i h; rw [decide_eq_true (by omega), decide_eq_true (by omega)]
    · rfl
section
variable {X w7 w8 : World} {B : Nat} {tg : Nat → Nat} {r nm T st gc ga gg : Nat} {p : Option Addr} {c8 : Nat} {ev wv : Value} {es : List Ev} {ws : List Int} {gv : Nat → Value} {gl : Nat → List Nat} {R : Nat → Prop} {m : Mu} {t : List Acc} {call at_ : Nat → Nat} {K : Nat → Prop} {pb db : Nat} {ob : Obj} {dc : Array Value}
/-- Behind the access. -/
structure MadeR (X w7 : World) (B : Nat) (tg : Nat → Nat) (r nm T st gc ga gg : Nat) (p : Option Addr) (c8 : Nat) (ev wv : Value) (es : List Ev) (ws : List Int) (gv : Nat → Value) (gl : Nat → List Nat) (R : Nat → Prop) (m : Mu) (t : List Acc) (call at_ : Nat → Nat) (K : Nat → Prop) (pb db : Nat) (ob : Obj) (dc : Array Value) (i : Nat) (sv : Value) : Prop where
  d : D4At w7 B tg r nm T st gc ga gg p c8 ev wv es ws gv gl R m t call at_
  mp : DM X w7 B tg K pb ob
  md : DM X w7 B tg K db (.cells dc 112 (0, 0))
  gy : w7.cell? ⟨gg, i, none⟩ = some sv
  gya : ∀ o, (w7.alloc o).cell? ⟨gg, i, none⟩ = some sv
  rb : ∀ o, (w7.alloc o).heap[r]? = w7.heap[r]?
  db_ : ∀ o, (w7.alloc o).heap[db]? = some (.cells dc 112 (0, 0))
theorem made_end {w6 : World} {R' : Nat → Prop} {m' : Mu} {t' : List Acc} (h : D4At w6 B tg r nm T st gc ga gg p c8 ev wv es ws gv gl R m t call at_) (hM : DM X w6 B tg K pb ob) (hE : DM X w6 B tg K db (.cells dc 112 (0, 0))) (hR : RM w7 R' nm 200 m'.next m'.cs t') (g : Goes w6 w7 R R') (ht : t.length ≤ t'.length ∧ t'.length ≤ st + 1) (hm : m'.next ≤ 200) (i : Nat) (hi : i < T) {sv : Value} (hsv : gv i = sv) :
    ∃ tg', MadeR X w7 B tg' r nm T st gc ga gg p c8 ev wv es ws gv gl R' m' t' call at_ K pb db ob dc i sv := by
  classical
  have hD := h.made hR g (by have := hM.chg.size; have := hM.bx; omega) ht hm
  have hM7 := hM.next g.chg (fun k _ e => by rw [h.tR k e]; decide) (fun k e => (h.lo k e).1) (tg' := fun k => if k < w6.heap.size then tg k else if R' k then 7 else 0) (fun k hk => by simp only [if_pos hk])
  have hE7 := hE.next g.chg (fun k _ e => by rw [h.tR k e]; decide) (fun k e => (h.lo k e).1) (tg' := fun k => if k < w6.heap.size then tg k else if R' k then 7 else 0) (fun k hk => by simp only [if_pos hk])
  refine ⟨_, hD, ?_, ?_, by rw [cell_of hD.gb i, valR_get hi, hsv], fun o => ?_, fun o => Below.heap_alloc _ _ r (lt_of hD.blk), fun o => (Below.heap_alloc _ _ db (lt_of hE7.plan)).trans hE7.plan⟩
  · exact hM7
  · exact hE7
  · rw [cell_of ((Below.heap_alloc _ _ gg (lt_of hD.gb)).trans hD.gb) i, valR_get hi, hsv]
/-- Behind the append. -/
structure ToldR (X w8 : World) (B r nm T st gc ga gg : Nat) (p : Option Addr) (c8 : Nat) (ev wv : Value) (es : List Ev) (ws : List Int) (gl : Nat → List Nat) (R : Nat → Prop) (m : Mu) (t : List Acc) (call at_ : Nat → Nat) (K : Nat → Prop) (pb db : Nat) (ob : Obj) (dc rc : Array Value) (i x : Nat) (sv v8 : Value) : Prop where
  cell : w8.cell? ⟨gg, i, none⟩ = some sv
  free : w8.frozen? ⟨gg, i, none⟩ = false
  rb : w8.heap[r]? = some (.cells rc 104 (0, 0))
  db_ : w8.heap[db]? = some (.cells dc 112 (0, 0))
  rn : r ≠ gg
  dn : db ≠ gg
  fin : ∃ tg gv, Hid (D4At (w8.setCell ⟨gg, i, none⟩ v8) B tg r nm T st gc ga gg p c8 ev wv es ws gv (fun j => if j = i then gl i ++ [x] else gl j) R m t call at_) ∧ Hid (DM X (w8.setCell ⟨gg, i, none⟩ v8) B tg K pb ob)
theorem told_end {i : Nat} {sv v8 : Value} {rc : Array Value} (h : MadeR X w7 B tg r nm T st gc ga gg p c8 ev wv es ws gv gl R m t call at_ K pb db ob dc i sv) (hrc : w7.heap[r]? = some (.cells rc 104 (0, 0))) (hi : i < T) (hsv : gv i = sv) {x : Nat} {o : Obj} (r1 : w8.ownsRow 0 75 1 v8 ((gl i).length + 1) ((gl i).map u64V ++ [.int .u64 (x : Int)])) (r2 : (w7.alloc o).grownBy w8 sv.ownBlock) (r4 : v8.ownBlock = sv.ownBlock ∨ v8.ownBlock = some (w7.alloc o).heap.size) (hl : (gl i).length + 1 ≤ st) :
    ToldR X w8 B r nm T st gc ga gg p c8 ev wv es ws gl R m t call at_ K pb db ob dc rc i x sv v8 := by
  have hrow := h.d.gr i hi
  rw [hsv] at hrow
  have ng : ∀ (k : Nat) (cur : Array Value) (ty : TypeId), w7.heap[k]? = some (Obj.cells cur ty (0, 0)) → ty ≠ 75 → w8.heap[k]? = some (Obj.cells cur ty (0, 0)) := fun k cur ty hk hty => (r2.block k (by rw [World.size_alloc]; have := lt_of hk; omega) (fun e => block_apart hrow hk (fun z => hty z.symm) e.symm)).trans ((Below.heap_alloc _ _ k (lt_of hk)).trans hk)
  have hg8 := ng gg _ _ h.d.gb (by decide)
  have hb8 := ng r _ _ hrc (by decide)
  have hd8 := ng db _ _ h.md.plan (by decide)
  have r2' : (w7.alloc o).grownBy w8 (gv i).ownBlock := by rw [hsv]; exact r2
  have hT := h.d.told i hi (x := x) r1 r2' (by rw [hsv]; exact r4) (by have := h.mp.chg.size; have := h.mp.bx; omega) hl
  refine ⟨by rw [cell_of hg8 i, valR_get hi, hsv], free_of hg8 i, hb8, hd8, typ_ne hb8 hg8 (by decide), typ_ne hd8 hg8 (by decide), _, _, hT, ?_⟩
  refine h.mp.next (G := fun k => (gv i).ownBlock = some k ∨ k = gg) ((((Chg.refl (fun k => (gv i).ownBlock = some k ∨ k = gg) w7).alloc _).grown r2' (fun k e _ => .inl e)).setCell (fun _ => .inr rfl) _) (fun k _ e => ?_) (fun k e => (h.d.lo k e).1) (fun k hk => by simp only [if_pos hk])
  rcases e with e | e
  · rw [h.d.tg_ i k hi e]; omega
  · rw [e, h.d.tG]; decide
/-- Behind the append of an event. -/
structure EvR (X w3 : World) (B r nm T st gc ga gg : Nat) (p : Option Addr) (c8 : Nat) (wv : Value) (es : List Ev) (ws : List Int) (gv : Nat → Value) (gl : Nat → List Nat) (R : Nat → Prop) (m : Mu) (t : List Acc) (call at_ : Nat → Nat) (K : Nat → Prop) (pb : Nat) (ob : Obj) (i : Nat) (x : Ev) (ev ev' : Value) : Prop where
  cell : w3.cell? ⟨r, 5, none⟩ = some ev
  free : w3.frozen? ⟨r, 5, none⟩ = false
  h2 : w3.cell? ⟨r, 2, none⟩ = some (.slice (some ⟨gc, 0, none⟩) T T)
  hc : w3.cell? ⟨gc, i, none⟩ = some (.int .i64 (call i : Int))
  k2 : (w3.setCell ⟨r, 5, none⟩ ev').cell? ⟨r, 2, none⟩ = some (.slice (some ⟨gc, 0, none⟩) T T)
  kc : (w3.setCell ⟨r, 5, none⟩ ev').cell? ⟨gc, i, none⟩ = some (.int .i64 (call i : Int))
  fin : ∃ tg ev2, Hid (D4At (w3.setCell ⟨r, 5, none⟩ ev') B tg r nm T st gc ga gg p c8 ev2 wv (es ++ [x]) ws gv gl R m t call at_) ∧ Hid (DM X (w3.setCell ⟨r, 5, none⟩ ev') B tg K pb ob)
theorem ev_end {w2 w3 : World} (h : D4At w2 B tg r nm T st gc ga gg p c8 ev wv es ws gv gl R m t call at_) (hM : DM X w2 B tg K pb ob) {i : Nat} (hi : i < T) {ev' : Value} {x : Ev} {o : Obj} (r1 : w3.ownsRow 0 100 4 ev' (es.length + 1) (evRow es ++ x.cells)) (r2 : (w2.alloc o).grownBy w3 ev.ownBlock) (r4 : ev'.ownBlock = ev.ownBlock ∨ ev'.ownBlock = some (w2.alloc o).heap.size) (hl : es.length + 1 ≤ 2 * st) :
    EvR X w3 B r nm T st gc ga gg p c8 wv es ws gv gl R m t call at_ K pb ob i x ev ev' := by
  have hR := h.event (x := x) r1 r2 r4 (by have := hM.chg.size; have := hM.bx; omega) hl
  have ng : ∀ (k : Nat) (cur : Array Value) (ty : TypeId), w2.heap[k]? = some (Obj.cells cur ty (0, 0)) → ty ≠ 100 → w3.heap[k]? = some (Obj.cells cur ty (0, 0)) := fun k cur ty hk hty => (r2.block k (by rw [World.size_alloc]; have := lt_of hk; omega) (fun e => block_apart h.er hk (fun z => hty z.symm) e.symm)).trans ((Below.heap_alloc _ _ k (lt_of hk)).trans hk)
  have hb3 := ng r _ _ h.blk (by decide)
  have hc3 := ng gc _ _ h.cb (by decide)
  have hne : gc ≠ r := typ_ne hc3 hb3 (by decide)
  have hc4 : (w3.setCell ⟨r, 5, none⟩ ev').heap[gc]? = _ := (Below.heap_setCell _ _ _ gc hne).trans hc3
  refine ⟨cell_of hb3 5, free_of hb3 5, cell_of hb3 2, by rw [cell_of hc3 i]; exact intR_get hi, cell_of hR.blk 2, by rw [cell_of hc4 i]; exact intR_get hi, _, _, hR, ?_⟩
  refine hM.next (G := fun k => ev.ownBlock = some k ∨ k = r) ((((Chg.refl (fun k => ev.ownBlock = some k ∨ k = r) w2).alloc _).grown r2 (fun k e _ => .inl e)).setCell (fun _ => .inr rfl) _) (fun k _ e => ?_) (fun k e => (h.lo k e).1) (fun k hk => by simp only [if_pos hk])
  rcases e with e | e
  · rw [h.te k e]; decide
  · rw [e, h.tr]; decide
end
end Go.Proofs.YtnhiodmigmmfgaaGreat
/- Runs of plans' procs: a pick, with its events. -/
namespace Go.Proofs.YtnhiodmigmmfgaaGreat
open Go.RowKit Go.Shelf
set_option linter.unusedVariables false

/-- A runner with its procs, where the pure run has come to c. -/
structure GRAt {P : Type} {Lo : Nat} {W0 : World} (κ : KindL P Lo W0) (most m b T : Nat) (cl : Nat → Nat) (vb : Nat → Nat) (pv : Nat → Nat → Value) (c : Cfg P) (W Z X : World) (S G K : Nat → Prop) (r : Nat) (vw : List Value) (tv ev av : Value) (ths : List Thr) : Prop where
  run : RunAt X G r m vw tv ev av ths c.st c.evs c.ats
  ma : MA κ most m b T cl vb pv c.st c X K
  apart : ∀ j, G j → ¬ K j
  len : ths.length = T
  thr : ∀ (j : Nat) (t : Thr), ths[j]? = some t → t.calls.length = cl j ∧ (∀ q, q < cl j → t.calls[q]? = some (pv j q)) ∧ t.next = c.ix j ∧ t.begun = c.bg j
  vws : ∀ j, j < T → vw[j]? = some (.pointer (some ⟨vb j, 0, none⟩))
  evl : c.evs.length ≤ 2 * c.st
  inW : ∀ j, G j ∨ (K j ∧ Lo ≤ j) → W.heap.size ≤ j
  lo : Lo ≤ W.heap.size
  chg : Chg (fun _ => False) W X
  zs : Z.heap.size ≤ X.heap.size
  keep : ∀ j, S j → j < X.heap.size ∧ X.heap[j]? = Z.heap[j]? ∧ ¬ G j ∧ ¬ K j
def GR {P : Type} {Lo : Nat} {W0 : World} (κ : KindL P Lo W0) (most m b T : Nat) (cl : Nat → Nat) (vb : Nat → Nat) (pv : Nat → Nat → Value) (c : Cfg P) (W Z X : World) (S : Nat → Prop) (r : Nat) : Prop := ∃ G K vw tv ev av ths, GRAt κ most m b T cl vb pv c W Z X S G K r vw tv ev av ths
section
variable {P : Type} {Lo : Nat} {W0 : World} {κ : KindL P Lo W0} {most m b T : Nat} {cl : Nat → Nat} {vb : Nat → Nat} {pv : Nat → Nat → Value} {c : Cfg P} {W Z X : World} {S : Nat → Prop} {r : Nat}
theorem MA.goes {n : Nat} {Y : World} {G K : Nat → Prop} (h : MA κ most m b T cl vb pv n c X K) (hg : Goes X Y G G) (ha : ∀ j, G j → ¬ K j) : MA κ most m b T cl vb pv n c Y K :=
  h.keep hg.chg.size (fun j hj => hg.chg.block j (h.ltK j hj) (fun e => ha j e hj))
theorem MA.tlen {n : Nat} {K : Nat → Prop} (h : MA κ most m b T cl vb pv n c X K) : c.t.length ≤ n + 16000000 := by
  obtain ⟨F, D, md, tg, h⟩ := h
  exact h.tn
theorem MA.lows {n : Nat} {K : Nat → Prop} (h : MA κ most m b T cl vb pv n c X K) (k : Nat) (hk : k < Lo) : X.heap[k]? = W0.heap[k]? := by
  obtain ⟨F, D, md, tg, h⟩ := h
  exact h.low k hk
theorem MA.tick {n : Nat} {K : Nat → Prop} (h : MA κ most m b T cl vb pv n c X K) : MA κ most m b T cl vb pv n c.tick X K := by
  obtain ⟨F, D, md, tg, h⟩ := h
  exact ⟨F, D, md, tg, ⟨h.bank, h.mem, h.views, h.procs, h.oks, h.inF, h.inM, h.inV, h.inD, h.lt, h.tn, h.mo, h.lowK, h.low, h.hi⟩⟩
theorem chg_low {W X Y : World} {Lo : Nat} {H : Nat → Prop} (h : Chg (fun _ => False) W X) (c : Chg H X Y) (hl : ∀ k, k < Lo → Y.heap[k]? = X.heap[k]?) (hH : ∀ k, k < W.heap.size → H k → k < Lo) : Chg (fun _ => False) W Y := by
  have z : Chg (fun k => k < Lo) W Y := h.trans c (fun _ _ x => x.elim) hH
  refine ⟨z.os, z.tape, z.output, z.size, fun k hk _ => ?_⟩
  by_cases e : k < Lo
  · exact (hl k e).trans (h.block k hk (fun x => x))
  · exact z.block k hk e
set_option maxRecDepth 100000 in
theorem gr_pick (h : GR κ most m b T cl vb pv c W Z X S r) (th : Int) (hk : c.st ≤ 16777216) :
    Calls Tryz.prog 8 #[.pointer (some ⟨r, 0, none⟩), .int .i64 th] X fun e X' => e = .returned (.bool (decide (Cfg.can T cl c th))) ∧ GR κ most m b T cl vb pv (c.pick κ most T cl th) W Z X' S r := by
  obtain ⟨G, K, vw, tv, ev, av, ths, h⟩ := h
  have hl := h.len
  have hma := h.ma
  have hthr := h.thr
  have htl := hma.tlen
  have idle : c.pick κ most T cl th = c.tick → ∀ X', RunAt X' G r m vw tv ev av ths (c.st + 1) c.evs c.ats → Goes X X' G G → GR κ most m b T cl vb pv (c.pick κ most T cl th) W Z X' S r := fun e X' R' GG => by
    rw [e]
    exact ⟨G, K, vw, tv, ev, av, ths, R', ((hma.goes GG h.apart).more (Nat.le_succ c.st)).tick, h.apart, hl, hthr, h.vws, by have := h.evl; show c.evs.length ≤ 2 * (c.st + 1); omega, h.inW, h.lo, h.chg.trans GG.chg (fun _ _ x => x) (fun j hj e => by have := h.inW j (.inl e); omega), Nat.le_trans h.zs GG.chg.size, fun j hj => ⟨Nat.lt_of_lt_of_le (h.keep j hj).1 GG.chg.size, (GG.chg.block j (h.keep j hj).1 (h.keep j hj).2.2.1).trans (h.keep j hj).2.1, (h.keep j hj).2.2⟩⟩
  by_cases hin : 0 ≤ th ∧ th < (T : Int)
  · obtain ⟨i, rfl⟩ : ∃ i : Nat, th = (i : Int) := ⟨th.toNat, by omega⟩
    have hi : i < T := by omega
    have hlt : i < ths.length := by omega
    obtain ⟨x, hx⟩ : ∃ x, ths[i]? = some x := ⟨ths[i], List.getElem?_eq_getElem hlt⟩
    obtain ⟨hxl, hxc, hxn, hxb⟩ := hthr i x hx
    obtain ⟨g, cc, htv⟩ := slice_pos h.run.tr (by omega)
    have hr := h.run
    rw [htv] at hr
    by_cases hn0 : c.ix i < cl i
    · have hn : x.next < x.calls.length := by omega
      have hp : x.calls[x.next]? = some (pv i (c.ix i)) := by rw [hxn]; exact hxc _ hn0
      have hcan : Cfg.can T cl c (i : Int) := ⟨by omega, by omega, by simpa using hn0⟩
      have hgo : c.pick κ most T cl (i : Int) = (c.go κ most i).tick := by
        unfold Cfg.pick
        rw [if_pos hcan]
        simp
      have few : (c.go κ most i).t.length ≤ c.t.length + 1 := by
        have fw : (c.out κ most i).acc.length ≤ 1 := κ.few (i : Int) most c.next c.cs (c.σ i (c.ix i))
        show (c.t ++ (c.out κ most i).acc).length ≤ _
        rw [List.length_append]
        omega
      refine (r_pick_in (vb := vb i) (fun X K => MA κ most m b T cl vb pv c.st c X K) (fun d X K => d = (c.out κ most i).done ∧ MA κ most m b T cl vb pv (c.st + 1) (c.go κ most i) X K) c.t.length (fun _ => (c.go κ most i).t.length) i x (pv i (c.ix i)) X hr hx hn hp (h.vws i hi) hma h.apart (fun X Y K h hs hk => h.keep hs hk) (fun X K h => h.ltK) (fun X K h => h.memK)
        (fun d X Y K h hs hk => ⟨h.1, h.2.keep hs hk⟩) (fun d X K h => h.2.ltK) (fun d Y K hh => hh.2.memK)
        (fun X K hI => (hI.step i hi hn0 (by omega)).mono (fun e Y z => by obtain ⟨rfl, K', M, GG⟩ := z; exact ⟨_, K', rfl, ⟨rfl, M⟩, GG⟩)) (by omega) (by have := h.evl; omega) (by omega) (fun _ => by omega)).mono ?_
      rintro e X' ⟨d, G', K', ev', av', rfl, R', ⟨rfl, M'⟩, A', GG⟩
      have hev : pickEvs c.evs x c.st i (c.out κ most i).done = evsOf c i (c.out κ most i).done := by unfold pickEvs evsOf; rw [hxn, hxb]
      rw [hev] at R'
      refine ⟨by rw [decide_eq_true hcan], ?_⟩
      rw [hgo]
      refine ⟨G', K', vw, _, ev', av', _, R', M'.tick, A', by simp [hl], fun j t ht => ?_, h.vws, ?_, fun j e => ?_, h.lo, chg_low h.chg GG.chg (fun k hk => (M'.lows k hk).trans (hma.lows k hk).symm) (fun j hj e => ?_), Nat.le_trans h.zs GG.chg.size, fun j hj => ⟨Nat.lt_of_lt_of_le (h.keep j hj).1 GG.chg.size, (GG.chg.block j (h.keep j hj).1 (fun e => e.elim (h.keep j hj).2.2.1 (h.keep j hj).2.2.2)).trans (h.keep j hj).2.1, fun e => (GG.new j (.inl e)).elim (fun e => e.elim (h.keep j hj).2.2.1 (h.keep j hj).2.2.2) (fun e => by have := (h.keep j hj).1; omega), fun e => (GG.new j (.inr e)).elim (fun e => e.elim (h.keep j hj).2.2.1 (h.keep j hj).2.2.2) (fun e => by have := (h.keep j hj).1; omega)⟩⟩
      · show _ ∧ _ ∧ t.next = updN c.ix i (if (c.out κ most i).done then c.ix i + 1 else c.ix i) j ∧ t.begun = updN c.bg i (!(c.out κ most i).done) j
        by_cases hji : j = i
        · subst hji
          simp [hlt] at ht
          subst ht
          rw [updN_same, updN_same]
          refine ⟨hxl, hxc, ?_, rfl⟩
          simp only [pickThr, hxn]
          split <;> simp_all
        · rw [List.getElem?_set_ne (by omega)] at ht
          rw [updN_other _ _ _ _ hji, updN_other _ _ _ _ hji]
          exact hthr j t ht
      · have := h.evl
        show (evsOf c i (c.out κ most i).done).length ≤ 2 * (c.st + 1)
        unfold evsOf
        split <;> split <;> simp <;> omega
      · rcases e with e | ⟨e, q⟩
        · rcases GG.new j (.inl e) with (w | w) | w
          · exact h.inW j (.inl w)
          · by_cases z : Lo ≤ j
            · exact h.inW j (.inr ⟨w, z⟩)
            · have hK' : K' j := by obtain ⟨F, D, md, tg, M'⟩ := M'; exact M'.lowK j (by omega)
              exact absurd hK' (A' j e)
          · exact Nat.le_trans h.chg.size w
        · rcases GG.new j (.inr e) with (w | w) | w
          · exact h.inW j (.inl w)
          · exact h.inW j (.inr ⟨w, q⟩)
          · exact Nat.le_trans h.chg.size w
      · rcases e with e | e
        · have := h.inW j (.inl e); omega
        · rcases Nat.lt_or_ge j Lo with z | z
          · exact z
          · have := h.inW j (.inr ⟨e, z⟩); omega
    · have hcan : ¬ Cfg.can T cl c (i : Int) := fun e => hn0 (by simpa using e.2.2)
      have hid : c.pick κ most T cl (i : Int) = c.tick := by
        unfold Cfg.pick
        rw [if_neg hcan]
      refine (r_pick_done i x X hr hx (by omega) (by omega)).mono ?_
      rintro e X' ⟨rfl, R', GG⟩
      rw [← htv] at R'
      exact ⟨by rw [decide_eq_false hcan], idle hid X' R' GG⟩
  · have hcan : ¬ Cfg.can T cl c th := fun e => hin ⟨e.1, e.2.1⟩
    have hid : c.pick κ most T cl th = c.tick := by
      unfold Cfg.pick
      rw [if_neg hcan]
    refine (r_pick_out th X h.run (by omega) (by omega)).mono ?_
    rintro e X' ⟨rfl, R', GG⟩
    exact ⟨by rw [decide_eq_false hcan], idle hid X' R' GG⟩
end
end Go.Proofs.YtnhiodmigmmfgaaGreat
/- What a runner tells. -/
namespace Go.Proofs.YtnhiodmigmmfgaaGreat
open Go.RowKit Go.Shelf

set_option maxRecDepth 100000 in
theorem clone_e (v : Value) (n : Nat) (xs : List Value) (W : World) (h : W.ownsRow 0 100 4 v n xs) (hn : n ≤ 1099511627776) (h1 : ∀ u ∈ xs, u.oneCell' = true) :
    Calls Tryz.prog 50 #[v] W fun e W' => ∃ v', e = .returned v' ∧ W'.ownsRow 0 100 4 v' n xs ∧ Chg (fun _ => False) W W' ∧ ∀ k, v'.ownBlock = some k → W.heap.size ≤ k := by
  obtain ⟨i0, hi, hz0, hz1, hz2⟩ := info_parts infoE
  have q1 : ∀ (w : World) (a : Option Addr) (n c n' c' : Nat), (binOp .eql 65 (.slice a n c) (.slice none n' c')).run Tryz.prog w = .ok (.bool a.isNone) w := fun w a n c n' c' => Lib.run_eql_slice_nil w _ _ a n c n' c' Tryz.underlying65
  rcases h.2 with ⟨rfl, rfl⟩ | ⟨g, cap, cur, rfl, _⟩
  · have hx : xs = [] := List.eq_nil_of_length_eq_zero (by simpa using h.1)
    subst hx
    clear h h1
    go_enter Tryz.func50, Tryz.ntmps50
    go_wp2_with fail
    go_ret
    exact ⟨.slice none 0 0, by simp, World.ownsRow_nil _ _ _ _, Chg.refl _ _, fun k e => by simp [Value.ownBlock] at e⟩
  · have H := keepH h
    have H1 := keepH h1
    have hxl := h.1
    clear h h1
    go_enter Tryz.func50, Tryz.ntmps50
    go_wp2_with (at_builtin; refine wpList_append_own_at _ rfl _ _ 65 rfl 0 100 i0 (evV 0 0 0 false) 4 32 Tryz.underlying65 hi hz0 hz1 hz2 rfl (by decide) (.slice (some ⟨W.heap.size, 0, none⟩) 0 0) 0 [] rfl ⟨rfl, .inr ⟨W.heap.size, 0, #[], rfl, Nat.zero_le _, heap_alloc_new _ _, Nat.le_refl _, by unfold maxLen; omega, rfl, rfl⟩⟩ ⟨g, 0, none⟩ n cap xs rfl hxl (fun j u hj => ((H.out.alloc _).cells (g := g) rfl j u hj)) H1.out (by unfold maxLen; omega) (by omega) (Nat.zero_le _) ?_; intro v' w1 r1 r2 r3 r4; have R1 := keepH r1; have R4 := keepH r4; clear r1 r3 r4)
    go_ret
    refine ⟨v', by simp, ?_, ((Chg.refl _ W).alloc _).grown r2 (fun k e hk => by simp [Value.ownBlock] at e; omega), fun k e => ?_⟩
    · have e := R1.out
      simpa using e
    · rcases R4.out with e2 | e2
      · rw [e2] at e
        simp [Value.ownBlock] at e
        omega
      · rw [e2] at e
        simp at e
        omega

set_option maxRecDepth 100000 in
theorem clone_i (v : Value) (n : Nat) (xs : List Value) (W : World) (h : W.ownsRow 0 3 1 v n xs) (hn : n ≤ 1099511627776) (h1 : ∀ u ∈ xs, u.oneCell' = true) :
    Calls Tryz.prog 52 #[v] W fun e W' => ∃ v', e = .returned v' ∧ W'.ownsRow 0 3 1 v' n xs ∧ Chg (fun _ => False) W W' ∧ ∀ k, v'.ownBlock = some k → W.heap.size ≤ k := by
  obtain ⟨i0, hi, hz0, hz1, hz2⟩ := info_parts infoInt
  have q1 : ∀ (w : World) (a : Option Addr) (n c n' c' : Nat), (binOp .eql 23 (.slice a n c) (.slice none n' c')).run Tryz.prog w = .ok (.bool a.isNone) w := fun w a n c n' c' => Lib.run_eql_slice_nil w _ _ a n c n' c' Tryz.underlying23
  rcases h.2 with ⟨rfl, rfl⟩ | ⟨g, cap, cur, rfl, _⟩
  · have hx : xs = [] := List.eq_nil_of_length_eq_zero (by simpa using h.1)
    subst hx
    clear h h1
    go_enter Tryz.func52, Tryz.ntmps52
    go_wp2_with fail
    go_ret
    exact ⟨.slice none 0 0, by simp, World.ownsRow_nil _ _ _ _, Chg.refl _ _, fun k e => by simp [Value.ownBlock] at e⟩
  · have H := keepH h
    have H1 := keepH h1
    have hxl := h.1
    clear h h1
    go_enter Tryz.func52, Tryz.ntmps52
    go_wp2_with (at_builtin; refine wpList_append_own_at _ rfl _ _ 23 rfl 0 3 i0 (.int .i64 0) 1 8 Tryz.underlying23 hi hz0 hz1 hz2 rfl (by decide) (.slice (some ⟨W.heap.size, 0, none⟩) 0 0) 0 [] rfl ⟨rfl, .inr ⟨W.heap.size, 0, #[], rfl, Nat.zero_le _, heap_alloc_new _ _, Nat.le_refl _, by unfold maxLen; omega, rfl, rfl⟩⟩ ⟨g, 0, none⟩ n cap xs rfl hxl (fun j u hj => ((H.out.alloc _).cells (g := g) rfl j u hj)) H1.out (by unfold maxLen; omega) (by omega) (Nat.zero_le _) ?_; intro v' w1 r1 r2 r3 r4; have R1 := keepH r1; have R4 := keepH r4; clear r1 r3 r4)
    go_ret
    refine ⟨v', by simp, ?_, ((Chg.refl _ W).alloc _).grown r2 (fun k e hk => by simp [Value.ownBlock] at e; omega), fun k e => ?_⟩
    · have e := R1.out
      simpa using e
    · rcases R4.out with e2 | e2
      · rw [e2] at e
        simp [Value.ownBlock] at e
        omega
      · rw [e2] at e
        simp at e
        omega

theorem evRow_one (l : List Ev) : ∀ u ∈ evRow l, u.oneCell' = true := by
  intro u hu
  obtain ⟨x, _, hu⟩ := List.mem_flatMap.1 hu
  simp only [Ev.cells, List.mem_cons, List.not_mem_nil, or_false] at hu
  rcases hu with rfl | rfl | rfl | rfl <;> rfl
theorem i64_one (l : List Int) : ∀ u ∈ l.map i64V, u.oneCell' = true := by
  intro u hu
  obtain ⟨x, _, rfl⟩ := List.mem_map.1 hu
  rfl

section
variable {r m : Nat} {vw : List Value} {tv ev av : Value} {ths : List Thr} {steps : Nat} {evs : List Ev} {ats : List Int} {G : Nat → Prop}
set_option maxRecDepth 100000 in
theorem r_steps (W : World) (h : RunAt W G r m vw tv ev av ths steps evs ats) : Calls Tryz.prog 26 #[.pointer (some ⟨r, 0, none⟩)] W fun e W' => e = .returned (.int .i64 (steps : Int)) ∧ W' = W := by
  have c1 : W.cell? ⟨r, 66, none⟩ = some (.int .i64 (steps : Int)) := h.cellk 1
  clear h
  go_enter Tryz.func26, Tryz.ntmps26
  go_wp2_with fail
  go_ret
  exact ⟨by simp, rfl⟩
set_option maxRecDepth 100000 in
theorem r_events (W : World) (h : RunAt W G r m vw tv ev av ths steps evs ats) (hl : evs.length ≤ 1099511627776) : Calls Tryz.prog 17 #[.pointer (some ⟨r, 0, none⟩)] W fun e W' => ∃ p c, e = .returned (.slice p evs.length c) ∧ W'.ownsRow 0 100 4 (.slice p evs.length c) evs.length (evRow evs) ∧ Chg (fun _ => False) W W' ∧ ∀ k, (Value.slice p evs.length c).ownBlock = some k → W.heap.size ≤ k := by
  have c2 : W.cell? ⟨r, 67, none⟩ = some ev := h.cellk 2
  have H := keepH h
  clear h
  go_enter Tryz.func17, Tryz.ntmps17
  go_wp2_with fail
  refine (clone_e ev evs.length (evRow evs) _ H.out.er hl (evRow_one evs)).mono ?_
  rintro e w' ⟨v, rfl, R, C, B⟩
  have HR := keepH R
  have HC := keepH C
  have HB := keepH B
  obtain ⟨p, c, rfl⟩ := slice_of R
  clear R C B
  go_wp2_with fail
  go_ret
  exact ⟨p, c, by simp, HR.out, HC.out, HB.out⟩
def allDone (ths : List Thr) : Bool := ths.all fun x => decide (x.calls.length ≤ x.next)
set_option maxRecDepth 100000 in
set_option maxHeartbeats 1000000 in
theorem r_done (W : World) (h : RunAt W G r m vw tv ev av ths steps evs ats) : Calls Tryz.prog 25 #[.pointer (some ⟨r, 0, none⟩)] W fun e W' => e = .returned (.bool (allDone ths)) ∧ ∃ q, W' = W.drewN q := by
  have c0 : W.cell? ⟨r, 65, none⟩ = some tv := h.cellk 0
  have H := keepH h
  obtain ⟨p, c, hv⟩ := slice_of h.tr
  have hth := h.thl
  subst hv
  clear h
  go_enter Tryz.func25, Tryz.ntmps25
  go_wp2_with fail
  go_loopw [11] (fun s wr => ∃ (k q : Nat), k ≤ ths.length ∧ s = .int .i64 (k : Int) ∧ wr = W.drewN q ∧ Hid (∀ j x, j < k → ths[j]? = some x → x.calls.length ≤ x.next)) (fun s _ => ths.length - (intOf s).toNat)
  case atStart => exact ⟨0, 0, by omega, rfl, rfl, fun j x hj => absurd hj (Nat.not_lt_zero _)⟩
  case round =>
    obtain ⟨k, q, hk, rfl, rfl, HK⟩ := hrel
    by_cases hlt : k < ths.length
    · have t2 : (k : Int) < (ths.length : Int) := by omega
      obtain ⟨x, hx⟩ : ∃ x, ths[k]? = some x := ⟨ths[k], List.getElem?_eq_getElem hlt⟩
      obtain ⟨g, c', hg⟩ := slice_pos H.out.tr (by omega)
      simp only [Value.slice.injEq, true_and] at hg
      obtain ⟨rfl, rfl⟩ := hg
      have HX := keepH hx
      have d0 := keepH (H.out.thrCell k 0 (by omega) x hx)
      have d1 := keepH (H.out.thrCell k 1 (by omega) x hx)
      have dc := keepH (H.out.calls x (List.mem_of_getElem? hx))
      clear hx
      by_cases hd : x.calls.length ≤ x.next
      · go_wp2_with fail
        refine (s_isDone g k x (W.drewN q) d0.out d1.out (row_kept (W := W) dc.out fun _ _ => rfl)).mono ?_
        rintro e w' ⟨rfl, q2, rfl⟩
        go_wp2_with fail
        go_roundw
        case rel => exact ⟨k + 1, _, by omega, by go_num, rfl, fun j y hj hy => by
            by_cases e : j = k
            · subst e
              have e2 := HX.out
              rw [e2] at hy
              simp at hy
              subst hy
              exact hd
            · exact HK.out j y (by omega) hy⟩
        case measure => simp [intOf]; omega
      · have hd' : decide (x.calls.length ≤ x.next) = false := by simpa using hd
        go_wp2_with fail
        refine (s_isDone g k x (W.drewN q) d0.out d1.out (row_kept (W := W) dc.out fun _ _ => rfl)).mono ?_
        rintro e w' ⟨rfl, q2, rfl⟩
        go_wp2_with fail
        go_ret
        refine ⟨?_, _, rfl⟩
        have e : allDone ths = false := by
          rw [allDone, List.all_eq_false]
          exact ⟨x, List.mem_of_getElem? HX.out, by simpa using hd⟩
        simp [e]
    · obtain rfl : k = ths.length := by omega
      go_wp2_with fail
      go_ret
      refine ⟨?_, _, rfl⟩
      have e : allDone ths = true := by
        rw [allDone, List.all_eq_true]
        intro x hx
        obtain ⟨j, hj⟩ := List.getElem?_of_mem hx
        simpa using HK.out j x (List.getElem?_eq_some_iff.1 hj).1 hj
      simp [e]
set_option maxRecDepth 100000 in
set_option maxHeartbeats 4000000 in
theorem r_at {b most next : Nat} {F : Nat → Prop} {cs : List Nat} {l : List Acc} (W : World) (h : RunAt W G r m vw tv ev av ths steps evs ats) (hm : IsMem W m b) (hb : Bank W F b most next cs l) (ha : ats.length ≤ 1099511627776) (hl : l.length ≤ 1099511627776) :
    Calls Tryz.prog 19 #[.pointer (some ⟨r, 0, none⟩)] W fun e W' => ∃ p c, e = .returned (.slice p (extN ats l.length (-1)).length c) ∧ W'.ownsRow 0 3 1 (.slice p (extN ats l.length (-1)).length c) (extN ats l.length (-1)).length ((extN ats l.length (-1)).map i64V) ∧ Chg (fun _ => False) W W' ∧ ∀ k, (Value.slice p (extN ats l.length (-1)).length c).ownBlock = some k → W.heap.size ≤ k := by
  have c3 : W.cell? ⟨r, 68, none⟩ = some av := h.cellk 3
  have c0 : W.cell? ⟨r, 0, none⟩ = some (.pointer (some ⟨m, 0, none⟩)) := h.cell0
  have H := keepH h
  have HM := keepH hm
  have HB := keepH hb
  have hrl := lt_of h.blk
  clear h hm hb
  go_enter Tryz.func19, Tryz.ntmps19
  go_wp2_with fail
  go_region_with (first
    | (go_at_call 52; refine (clone_i av ats.length (ats.map i64V) W.drew (row_kept (W := W) H.out.ar fun k _ => rfl) ha (i64_one ats)).mono ?_; rintro e w1 ⟨v1, rfl, R1, C1, B1⟩; have HR1 := keepH R1; have HC1 : Hid (Chg (fun _ => False) W w1) := ⟨C1.os, C1.tape, C1.output, C1.size, C1.block⟩; have HB1 := keepH B1; have d0 : w1.cell? ⟨r, 0, none⟩ = some (.pointer (some ⟨m, 0, none⟩)) := cell_chg HC1.out c0 (fun h => h); clear R1 C1 B1)
    | (go_at_call 34; refine (m_made m b most next F cs l _ (HM.out.chg HC1.out (fun h => h)) (HB.out.chg HC1.out (fun _ _ h => h))).mono ?_; rintro e w2 ⟨rfl, rfl⟩)
    | (go_at_call 34; refine (m_made m b most next F cs l W.drew (HM.out.chg (W' := W.drew) (Goes.drewN W (fun _ => False) 1).chg (fun h => h)) (HB.out.chg (W' := W.drew) (Goes.drewN W (fun _ => False) 1).chg (fun _ _ h => h))).mono ?_; rintro e w2 ⟨rfl, rfl⟩)
    | (go_at_call 51; refine (s_extend _ ats l.length (-1) _ HR1.out hl).mono ?_; rintro e w3 ⟨v3, rfl, R3, C3, B3⟩; have HR3 := keepH R3; have HC3 := keepH C3; have HB3 := keepH B3; clear R3 C3 B3))
  all_goals (obtain ⟨p3, q3, hv3⟩ := slice_of HR3.out; subst hv3)
  all_goals (try go_wp2_with fail)
  all_goals go_ret
  all_goals
    refine ⟨p3, q3, by simp [Act.put], HR3.out, HC1.out.trans HC3.out (fun _ _ x => x) (fun k hk e => by have : W.heap.size ≤ k := HB1.out k e; omega), fun k e => ?_⟩
    rcases HB3.out k e with e | e
    · exact HB1.out k e
    · exact Nat.le_trans HC1.out.size e
end
end Go.Proofs.YtnhiodmigmmfgaaGreat
/- Runs of plans' procs: Run, a turn, Finish. -/
namespace Go.Proofs.YtnhiodmigmmfgaaGreat
open Go.RowKit Go.Shelf
set_option linter.unusedVariables false

section
variable {P : Type} {Lo : Nat} {W0 : World}
def doneP (T : Nat) (cl : Nat → Nat) (c : Cfg P) : Prop := ∀ j, j < T → cl j ≤ c.ix j
instance (T : Nat) (cl : Nat → Nat) (c : Cfg P) : Decidable (doneP T cl c) := by unfold doneP; exact inferInstance
end
section
variable {P : Type} {Lo : Nat} {W0 : World} {κ : KindL P Lo W0} {most m b T : Nat} {cl : Nat → Nat} {vb : Nat → Nat} {pv : Nat → Nat → Value} {c : Cfg P} {W Z X : World} {S : Nat → Prop} {r : Nat}
theorem GR.quiet {Y : World} (h : GR κ most m b T cl vb pv c W Z X S r) (q : Chg (fun _ => False) X Y) : GR κ most m b T cl vb pv c W Z Y S r := by
  obtain ⟨G, K, vw, tv, ev, av, ths, h⟩ := h
  exact ⟨G, K, vw, tv, ev, av, ths, h.run.kept q.size (fun k e => q.block k (h.run.lt k e) (fun x => x)), h.ma.keep q.size (fun k e => q.block k (h.ma.ltK k e) (fun x => x)), h.apart, h.len, h.thr, h.vws, h.evl, h.inW, h.lo, h.chg.trans q (fun _ _ x => x) (fun _ _ x => x), Nat.le_trans h.zs q.size, fun j hj => ⟨Nat.lt_of_lt_of_le (h.keep j hj).1 q.size, (q.block j (h.keep j hj).1 (fun x => x)).trans (h.keep j hj).2.1, (h.keep j hj).2.2⟩⟩
theorem GRAt.done {G K : Nat → Prop} {vw : List Value} {tv ev av : Value} {ths : List Thr} (h : GRAt κ most m b T cl vb pv c W Z X S G K r vw tv ev av ths) : allDone ths = decide (doneP T cl c) := by
  by_cases hd : doneP T cl c
  · rw [decide_eq_true hd, allDone, List.all_eq_true]
    intro x hx
    obtain ⟨j, hj⟩ := List.getElem?_of_mem hx
    have hjl := (List.getElem?_eq_some_iff.1 hj).1
    obtain ⟨h1, _, h2, _⟩ := h.thr j x hj
    rw [h1, h2, decide_eq_true_eq]
    exact hd j (by have := h.len; omega)
  · rw [decide_eq_false hd, allDone, List.all_eq_false]
    obtain ⟨j, hj, hlt⟩ : ∃ j, j < T ∧ ¬ cl j ≤ c.ix j := by
      apply Classical.byContradiction
      intro hn
      exact hd (fun j hj => Classical.byContradiction (fun e => hn ⟨j, hj, e⟩))
    have hjl : j < ths.length := by have := h.len; omega
    obtain ⟨h1, _, h2, _⟩ := h.thr j ths[j] (List.getElem?_eq_getElem hjl)
    refine ⟨ths[j], List.getElem_mem hjl, ?_⟩
    rw [h1, h2, decide_eq_true_eq]
    exact hlt
end
end Go.Proofs.YtnhiodmigmmfgaaGreat
/- Runs of plans' procs: Run over a list of picks. -/
namespace Go.Proofs.YtnhiodmigmmfgaaGreat
open Go.RowKit Go.Shelf
set_option linter.unusedVariables false

def IReads (W : World) (p : Option Addr) (xs : List Int) : Prop :=
  xs = [] ∨ ∃ bk off, p = some ⟨bk, off, none⟩ ∧ bk < W.heap.size ∧ ∀ i x, xs[i]? = some x → W.cell? ⟨bk, off + i, none⟩ = some (.int .i64 x)
theorem IReads.get {W : World} {p : Option Addr} {xs : List Int} (h : IReads W p xs) (i : Nat) (x : Int) (hx : xs[i]? = some x) : ∃ bk off, p = some ⟨bk, off, none⟩ ∧ bk < W.heap.size ∧ W.cell? ⟨bk, off + i, none⟩ = some (.int .i64 x) := by
  rcases h with rfl | ⟨bk, off, rfl, hb, h⟩
  · simp at hx
  · exact ⟨bk, off, rfl, hb, h i x hx⟩
theorem IReads.chg {W X : World} {p : Option Addr} {xs : List Int} (h : IReads W p xs) (hc : Chg (fun _ => False) W X) : IReads X p xs := by
  rcases h with rfl | ⟨bk, off, rfl, hb, h⟩
  · exact .inl rfl
  · exact .inr ⟨bk, off, rfl, Nat.lt_of_lt_of_le hb hc.size, fun i x hx => cell_chg hc (h i x hx) (fun h => h)⟩
section
variable {P : Type} {Lo : Nat} {W0 : World} {κ : KindL P Lo W0} {most m b T : Nat} {cl : Nat → Nat} {vb : Nat → Nat} {pv : Nat → Nat → Value} {c : Cfg P} {W Z X : World} {S : Nat → Prop} {r : Nat}
theorem Cfg.run_more (κ : KindL P Lo W0) (most T : Nat) (cl : Nat → Nat) (c : Cfg P) (picks : List Int) (k : Nat) (th : Int) (h : picks[k]? = some th) : c.run κ most T cl (picks.take (k + 1)) = (c.run κ most T cl (picks.take k)).pick κ most T cl th := by
  unfold Cfg.run
  rw [List.take_add_one, h]
  simp [List.foldl_append]
theorem pick_st (κ : KindL P Lo W0) (most T : Nat) (cl : Nat → Nat) (c : Cfg P) (th : Int) : (c.pick κ most T cl th).st = c.st + 1 := by
  unfold Cfg.pick
  split <;> rfl
theorem run_st (κ : KindL P Lo W0) (most T : Nat) (cl : Nat → Nat) : ∀ (picks : List Int) (c : Cfg P), (c.run κ most T cl picks).st = c.st + picks.length
  | [], c => rfl
  | th :: l, c => by
    have := run_st κ most T cl l (c.pick κ most T cl th)
    rw [pick_st] at this
    show ((c.pick κ most T cl th).run κ most T cl l).st = _
    rw [this, List.length_cons]
    omega
theorem GR.chgW (h : GR κ most m b T cl vb pv c W Z X S r) : Chg (fun _ => False) W X := by
  obtain ⟨G, K, vw, tv, ev, av, ths, h⟩ := h
  exact h.chg
end
end Go.Proofs.YtnhiodmigmmfgaaGreat
/- Events that are the same; nobody is under way. -/
namespace Go.Proofs.YtnhiodmigmmfgaaGreat
open Go.RowKit Go.Shelf
set_option linter.unusedVariables false

set_option maxRecDepth 100000 in
set_option maxHeartbeats 4000000 in
theorem s_sameE (p q : Option Addr) (c d n : Nat) (l : List Ev) (W : World) (ha : W.ownsRow 0 100 4 (.slice p n c) n (evRow l)) (hb : W.ownsRow 0 100 4 (.slice q n d) n (evRow l)) (hl : l.length = n) (hn : n ≤ 1099511627776) :
    Calls Tryz.prog 39 #[.slice p n c, .slice q n d] W fun e W' => e = .returned (.bool true) ∧ ∃ k, W' = W.drewN k := by
  have HA := keepH ha
  have HB := keepH hb
  have HL := keepH hl
  clear ha hb hl
  go_enter Tryz.func39, Tryz.ntmps39
  go_wp2_with fail
  go_loopw [5] (fun s wr => ∃ k : Nat, k ≤ n ∧ s = .int .i64 (k : Int) ∧ Hid (∃ j, wr = W.drewN j)) (fun s _ => n - (intOf s).toNat)
  case atStart => exact ⟨0, by omega, rfl, keepH ⟨0, rfl⟩⟩
  case round =>
    obtain ⟨k, hk, rfl, HK⟩ := hrel
    by_cases hlt : k < n
    · have t1 : (k : Int) < (n : Int) := by omega
      obtain ⟨x, hx⟩ : ∃ x, l[k]? = some x := ⟨l[k]'(by have := HL.out; omega), List.getElem?_eq_getElem _⟩
      obtain ⟨g1, c1, e1⟩ := slice_pos HA.out (by omega)
      obtain ⟨g2, c2, e2⟩ := slice_pos HB.out (by omega)
      injection e1 with e1 _ e1c
      injection e2 with e2 _ e2c
      subst e1 e2 e1c e2c
      have A1 : ∀ f v, f < 4 → x.cells[f]? = some v → wr.cell? ⟨g1, k * 4 + f, none⟩ = some v := fun f v hf hv => by
        obtain ⟨j, e⟩ := HK.out
        rw [e]
        exact ev_cellY HA.out k f x hx hlt hf v hv
      have B1 : ∀ f v, f < 4 → x.cells[f]? = some v → wr.cell? ⟨g2, k * 4 + f, none⟩ = some v := fun f v hf hv => by
        obtain ⟨j, e⟩ := HK.out
        rw [e]
        exact ev_cellY HB.out k f x hx hlt hf v hv
      obtain ⟨a1, a2, a3, a4⟩ := x
      have x0 := A1 0 (.int .i64 a1) (by omega) rfl
      have x1 := A1 1 (.int .i64 a2) (by omega) rfl
      have x2 := A1 2 (.int .i64 a3) (by omega) rfl
      have x3 := A1 3 (.bool a4) (by omega) rfl
      have y0 := B1 0 (.int .i64 a1) (by omega) rfl
      have y1 := B1 1 (.int .i64 a2) (by omega) rfl
      have y2 := B1 2 (.int .i64 a3) (by omega) rfl
      have y3 := B1 3 (.bool a4) (by omega) rfl
      rw [Nat.add_zero] at x0 y0
      clear hx A1 B1
      go_wp2_with fail
      go_quiet (fail)
      go_wp2_with fail
      go_roundw
      case rel => exact ⟨k + 1, by omega, by first | rfl | go_num, keepH (by obtain ⟨j, e⟩ := HK.out; exact ⟨j + nq, by rw [e, drewN_addY]⟩)⟩
      case measure => simp [intOf]; omega
    · obtain rfl : k = n := by omega
      have t1 : ¬ (k : Int) < (k : Int) := by omega
      go_wp2_with fail
      go_ret
      exact ⟨by simp, HK.out⟩
section
variable {P : Type} {Lo : Nat} {W0 : World} {κ : KindL P Lo W0} {most m b T : Nat} {cl : Nat → Nat} {vb : Nat → Nat} {pv : Nat → Nat → Value} {c : Cfg P} {W Z X Y : World} {S : Nat → Prop} {r : Nat}
/-- The run beside what others do. -/
theorem GR.shift (h : GR κ most m b T cl vb pv c W Z X S r) {W' : World} (hW : W'.heap.size ≤ W.heap.size) (hlo : Lo ≤ W'.heap.size) (hc : Chg (fun _ => False) W' Y) (hs : X.heap.size ≤ Y.heap.size) (E : Nat → Prop) (hE : ∀ k, E k → S k) (hk : ∀ k, k < X.heap.size → ¬ E k → (k < Lo ∨ W.heap.size ≤ k) → Y.heap[k]? = X.heap[k]?) {S' : Nat → Prop} (hS : ∀ k, S' k → Lo ≤ k ∧ k < Y.heap.size ∧ (k < W.heap.size ∨ X.heap.size ≤ k ∨ S k)) : GR κ most m b T cl vb pv c W' Y Y S' r := by
  obtain ⟨G, K, vw, tv, ev, av, ths, h⟩ := h
  refine ⟨G, K, vw, tv, ev, av, ths, h.run.kept hs (fun k e => hk k (h.run.lt k e) (fun z => (h.keep k (hE k z)).2.2.1 e) (.inr (h.inW k (.inl e)))), h.ma.keep hs (fun k e => hk k (h.ma.ltK k e) (fun z => (h.keep k (hE k z)).2.2.2 e) ?_), h.apart, h.len, h.thr, h.vws, h.evl, fun j e => Nat.le_trans hW (h.inW j e), hlo, hc, Nat.le_refl _, fun j hj => ?_⟩
  · by_cases z : k < Lo
    · exact .inl z
    · exact .inr (h.inW k (.inr ⟨e, by omega⟩))
  · obtain ⟨s1, s2, s3⟩ := hS j hj
    refine ⟨s2, rfl, fun g => ?_, fun g => ?_⟩
    · rcases s3 with z | z | z
      · have := h.inW j (.inl g); omega
      · have := h.run.lt j g; omega
      · exact (h.keep j z).2.2.1 g
    · rcases s3 with z | z | z
      · have := h.inW j (.inr ⟨g, s1⟩); omega
      · have := h.ma.ltK j g; omega
      · exact (h.keep j z).2.2.2 g
theorem GR.zsize (h : GR κ most m b T cl vb pv c W Z X S r) : Z.heap.size ≤ X.heap.size := by
  obtain ⟨G, K, vw, tv, ev, av, ths, h⟩ := h
  exact h.zs
theorem GR.kept (h : GR κ most m b T cl vb pv c W Z X S r) (k : Nat) (hk : S k) : X.heap[k]? = Z.heap[k]? ∧ k < X.heap.size := by
  obtain ⟨G, K, vw, tv, ev, av, ths, h⟩ := h
  exact ⟨(h.keep k hk).2.1, (h.keep k hk).1⟩
end
end Go.Proofs.YtnhiodmigmmfgaaGreat
