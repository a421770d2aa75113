/- A Snapshot and its memory: what a step of it leaves. -/
import Derived.Test.YtlgkioaomcobdaaGreatAf
namespace Go.Proofs.YtlgkioaomcobdaaGreat
open Go.RowKit Go.Shelf
set_option linter.unusedVariables false

theorem SR.storeA {W : World} {m b v : Nat} {th : Int} {most : Nat} {w : World} {next made : Nat} {cs : List Nat} {n : Nat} {D : Nat → Prop} (h : SR W m b v th most w next made cs n D) (a x : Nat) (ha : a < 18446744073709551616) (hx : x < 18446744073709551616) (h1 : made < 1099511627776) (h2 : n < 1099511627776) :
    Calls Tryz.prog 18 #[.pointer (some ⟨v, 0, none⟩), .int .u64 (a : Int), .int .u64 (x : Int)] w fun e w' => e = .returned (.tuple #[]) ∧ SR W m b v th most w' next (made + 1) (stN most cs a x) (n + 1) D ∧ ∀ k, D k → w'.heap[k]? = w.heap[k]? := by
  obtain ⟨F, l, S, L, A⟩ := h
  refine (v_store v b most next made th a x F cs l w S.view S.bank S.nv h1 (by omega) ha hx).mono ?_
  rintro e w' ⟨rfl, F', vs, B, V, G⟩
  have z := SR.goes (n := n + 1) S A G B V (by simp [L])
  exact ⟨rfl, z.1, z.2⟩
theorem SR.goesP {W : World} {m b v : Nat} {th : Int} {most : Nat} {w w' : World} {next made next' made' q : Nat} {cs cs' : List Nat} {n : Nat} {D F F' : Nat → Prop} {l l' : List Acc} (S : St W w m b v F th most next made cs l) (A : ∀ k, D k → ¬ F k ∧ k ≠ v ∧ k ≠ m ∧ W.heap.size ≤ k ∧ k < w.heap.size) (hD : D q) (G : GoesP w w' F F' v q) (B : Bank w' F' b most next' cs' l') (V : IsView w' v b th made') (hl : l'.length = n) :
    SR W m b v th most w' next' made' cs' n D ∧ ∀ k, D k → k ≠ q → w'.heap[k]? = w.heap[k]? :=
  ⟨⟨F', l', ⟨B, V, S.mem.chg G.chg (fun e => e.elim (fun e => e.elim S.nm S.mv) (fun e => (A q hD).2.2.1 e.symm)), fun x => (G.new v x).elim S.nv (fun y => by have := S.view.lt; omega), fun x => (G.new m x).elim S.nm (fun y => by have := S.mem.lt; omega), S.mv, fun k e => (G.new k e).elim (S.inF k) (fun e => Nat.le_trans S.chg.size e), S.hv, S.chg.trans G.chg (fun _ _ x => x) (fun i hi x => x.elim (fun x => x.elim (fun y => by have := S.inF i y; omega) (fun y => by have := S.hv; omega)) (fun y => by have := (A q hD).2.2.2.1; omega))⟩, hl, fun k hk => ⟨fun x => (G.new k x).elim (A k hk).1 (fun y => by have := (A k hk).2.2.2.2; omega), (A k hk).2.1, (A k hk).2.2.1, (A k hk).2.2.2.1, Nat.lt_of_lt_of_le (A k hk).2.2.2.2 G.chg.size⟩⟩, fun k hk hne => G.chg.block k (A k hk).2.2.2.2 (fun e => e.elim (fun e => e.elim (A k hk).1 (A k hk).2.1) hne)⟩
theorem SR.tload {W : World} {m b v : Nat} {th : Int} {most : Nat} {w : World} {next made : Nat} {cs : List Nat} {n : Nat} {D : Nat → Prop} (h : SR W m b v th most w next made cs n D) (q cam mx st : Nat) (hq : IsTake w q cam mx 0 st 0 false) (hD : D q) (ha : cam < 18446744073709551616) (h1 : made < 1099511627776) (h2 : n < 1099511627776) :
    Calls Tryz.prog 102 #[.pointer (some ⟨q, 0, none⟩), .pointer (some ⟨v, 0, none⟩)] w fun e w' => e = .returned (.bool (decide (mx ≤ cellN cs cam))) ∧ IsTake w' q cam mx (if mx ≤ cellN cs cam then 2 else 1) (cellN cs cam) (if mx ≤ cellN cs cam then 31 else 0) false ∧ SR W m b v th most w' next (made + 1) cs (n + 1) D ∧ ∀ k, D k → k ≠ q → w'.heap[k]? = w.heap[k]? := by
  obtain ⟨F, l, S, L, A⟩ := h
  refine (t_load q v b most next made cam mx st th F cs l w hq S.view S.bank S.nv (A q hD).1 (A q hD).2.1 h1 (by omega) ha _ rfl).mono ?_
  rintro e w' ⟨rfl, N, F', vs, B, V, G⟩
  exact ⟨rfl, N, SR.goesP (n := n + 1) S A hD G B V (by simp [L])⟩
theorem SR.tcas {W : World} {m b v : Nat} {th : Int} {most : Nat} {w : World} {next made : Nat} {cs : List Nat} {n : Nat} {D : Nat → Prop} (h : SR W m b v th most w next made cs n D) (q cam mx st : Nat) (hq : IsTake w q cam mx 1 st 0 false) (hD : D q) (ha : cam < 18446744073709551616) (hs : st + 1 < 18446744073709551616) (h1 : made < 1099511627776) (h2 : n < 1099511627776) :
    Calls Tryz.prog 102 #[.pointer (some ⟨q, 0, none⟩), .pointer (some ⟨v, 0, none⟩)] w fun e w' => e = .returned (.bool true) ∧ IsTake w' q cam mx 2 st 0 (casOk most cs cam st) ∧ SR W m b v th most w' next (made + 1) (casN most cs cam st (st + 1)) (n + 1) D ∧ ∀ k, D k → k ≠ q → w'.heap[k]? = w.heap[k]? := by
  obtain ⟨F, l, S, L, A⟩ := h
  refine (t_cas q v b most next made cam mx st th F cs l w hq S.view S.bank S.nv (A q hD).1 (A q hD).2.1 h1 (by omega) ha hs).mono ?_
  rintro e w' ⟨rfl, N, F', vs, B, V, G⟩
  exact ⟨rfl, N, SR.goesP (n := n + 1) S A hD G B V (by simp [L])⟩

/-- A Snapshot (at p, with its Now at q and its Take at t), its memory, and blocks D beside them. -/
structure SnS (W : World) (m b v most : Nat) (th : Int) (p q t cam mst : Nat) (D : Nat → Prop) (w : World) (next made : Nat) (cs : List Nat) (n : Nat) (l : List Value) (np ns tp ts te : Nat) (mv : Bool) : Prop where
  sr : SR W m b v th most w next made cs n (fun k => D k ∨ k = p ∨ k = q ∨ k = t)
  blk : Blk w p 90 l
  now : IsNow w q cam np ns
  take : IsTake w t cam mst tp ts te mv
  ap : p ≠ q ∧ p ≠ t ∧ q ≠ t ∧ ¬ D p ∧ ¬ D q ∧ ¬ D t
/-- What lies beside stays. -/
def Kept (D : Nat → Prop) (w w' : World) : Prop := ∀ k, D k → w'.heap[k]? = w.heap[k]?
theorem Kept.refl (D : Nat → Prop) (w : World) : Kept D w w := fun _ _ => rfl
theorem Kept.trans {D : Nat → Prop} {w w1 w2 : World} (h : Kept D w w1) (k : Kept D w1 w2) : Kept D w w2 := fun i hi => (k i hi).trans (h i hi)
theorem SnS.chg {W : World} {m b v most : Nat} {th : Int} {p q t cam mst : Nat} {D : Nat → Prop} {w : World} {next made : Nat} {cs : List Nat} {n : Nat} {l : List Value} {np ns tp ts te : Nat} {mv : Bool} (h : SnS W m b v most th p q t cam mst D w next made cs n l np ns tp ts te mv) {w' : World} (c : Chg (fun _ => False) w w') : SnS W m b v most th p q t cam mst D w' next made cs n l np ns tp ts te mv :=
  ⟨h.sr.put c (fun _ x => x.elim), h.blk.chg c (fun x => x), h.now.chg c (fun x => x), h.take.chg c (fun x => x), h.ap⟩
theorem SnS.kept {W : World} {m b v most : Nat} {th : Int} {p q t cam mst : Nat} {D : Nat → Prop} {w : World} {next made : Nat} {cs : List Nat} {n : Nat} {l : List Value} {np ns tp ts te : Nat} {mv : Bool} (h : SnS W m b v most th p q t cam mst D w next made cs n l np ns tp ts te mv) {w' : World} (c : Chg (fun _ => False) w w') : Kept D w w' := fun k hk => c.block k (h.sr.lt k (.inl hk)) (fun x => x)
theorem SnS.setp {W : World} {m b v most : Nat} {th : Int} {p q t cam mst : Nat} {D : Nat → Prop} {w : World} {next made : Nat} {cs : List Nat} {n : Nat} {l : List Value} {np ns tp ts te : Nat} {mv : Bool} (h : SnS W m b v most th p q t cam mst D w next made cs n l np ns tp ts te mv) {w' : World} (c : Chg (fun k => k = p) w w') {l' : List Value} (hb : Blk w' p 90 l') : SnS W m b v most th p q t cam mst D w' next made cs n l' np ns tp ts te mv ∧ Kept D w w' :=
  ⟨⟨h.sr.put c (fun _ x => .inr (.inl x)), hb, h.now.chg c (fun e => h.ap.1 e.symm), h.take.chg c (fun e => h.ap.2.1 e.symm), h.ap⟩, fun k hk => c.block k (h.sr.lt k (.inl hk)) (fun e => h.ap.2.2.2.1 (e ▸ hk))⟩
theorem SnS.load {W : World} {m b v most : Nat} {th : Int} {p q t cam mst : Nat} {D : Nat → Prop} {w : World} {next made : Nat} {cs : List Nat} {n : Nat} {l : List Value} {np ns tp ts te : Nat} {mv : Bool} (h : SnS W m b v most th p q t cam mst D w next made cs n l np ns tp ts te mv) (a : Nat) (ha : a < 18446744073709551616) (h1 : made < 1099511627776) (h2 : n < 1099511627776) :
    Calls Tryz.prog 40 #[.pointer (some ⟨v, 0, none⟩), .int .u64 (a : Int)] w fun e w' => e = .returned (.int .u64 (cellN cs a : Int)) ∧ SnS W m b v most th p q t cam mst D w' next (made + 1) cs (n + 1) l np ns tp ts te mv ∧ Kept D w w' := by
  refine (h.sr.load a ha h1 h2).mono ?_
  rintro e w' ⟨rfl, S, K⟩
  exact ⟨rfl, ⟨S, (K p (.inr (.inl rfl))).trans h.blk, (K q (.inr (.inr (.inl rfl)))).trans h.now, (K t (.inr (.inr (.inr rfl)))).trans h.take, h.ap⟩, fun k hk => K k (.inl hk)⟩
theorem SnS.cas {W : World} {m b v most : Nat} {th : Int} {p q t cam mst : Nat} {D : Nat → Prop} {w : World} {next made : Nat} {cs : List Nat} {n : Nat} {l : List Value} {np ns tp ts te : Nat} {mv : Bool} (h : SnS W m b v most th p q t cam mst D w next made cs n l np ns tp ts te mv) (a old now : Nat) (ha : a < 18446744073709551616) (hn : now < 18446744073709551616) (h1 : made < 1099511627776) (h2 : n < 1099511627776) :
    Calls Tryz.prog 97 #[.pointer (some ⟨v, 0, none⟩), .int .u64 (a : Int), .int .u64 (old : Int), .int .u64 (now : Int)] w fun e w' => e = .returned (.bool (casOk most cs a old)) ∧ SnS W m b v most th p q t cam mst D w' next (made + 1) (casN most cs a old now) (n + 1) l np ns tp ts te mv ∧ Kept D w w' := by
  refine (h.sr.cas a old now ha hn h1 h2).mono ?_
  rintro e w' ⟨rfl, S, K⟩
  exact ⟨rfl, ⟨S, (K p (.inr (.inl rfl))).trans h.blk, (K q (.inr (.inr (.inl rfl)))).trans h.now, (K t (.inr (.inr (.inr rfl)))).trans h.take, h.ap⟩, fun k hk => K k (.inl hk)⟩
theorem SnS.store {W : World} {m b v most : Nat} {th : Int} {p q t cam mst : Nat} {D : Nat → Prop} {w : World} {next made : Nat} {cs : List Nat} {n : Nat} {l : List Value} {np ns tp ts te : Nat} {mv : Bool} (h : SnS W m b v most th p q t cam mst D w next made cs n l np ns tp ts te mv) (a x : Nat) (ha : a < 18446744073709551616) (hx : x < 18446744073709551616) (h1 : made < 1099511627776) (h2 : n < 1099511627776) :
    Calls Tryz.prog 18 #[.pointer (some ⟨v, 0, none⟩), .int .u64 (a : Int), .int .u64 (x : Int)] w fun e w' => e = .returned (.tuple #[]) ∧ SnS W m b v most th p q t cam mst D w' next (made + 1) (stN most cs a x) (n + 1) l np ns tp ts te mv ∧ Kept D w w' := by
  refine (h.sr.storeA a x ha hx h1 h2).mono ?_
  rintro e w' ⟨rfl, S, K⟩
  exact ⟨rfl, ⟨S, (K p (.inr (.inl rfl))).trans h.blk, (K q (.inr (.inr (.inl rfl)))).trans h.now, (K t (.inr (.inr (.inr rfl)))).trans h.take, h.ap⟩, fun k hk => K k (.inl hk)⟩
theorem SnS.nowS {W : World} {m b v most : Nat} {th : Int} {p q t cam mst : Nat} {D : Nat → Prop} {w : World} {next made : Nat} {cs : List Nat} {n : Nat} {l : List Value} {ns tp ts te : Nat} {mv : Bool} (h : SnS W m b v most th p q t cam mst D w next made cs n l 0 ns tp ts te mv) (ha : cam < 18446744073709551616) (h1 : made < 1099511627776) (h2 : n < 1099511627776) :
    Calls Tryz.prog 99 #[.pointer (some ⟨q, 0, none⟩), .pointer (some ⟨v, 0, none⟩)] w fun e w' => e = .returned (.bool true) ∧ SnS W m b v most th p q t cam mst D w' next (made + 1) cs (n + 1) l 2 (cellN cs cam) tp ts te mv ∧ Kept D w w' := by
  refine (h.sr.now q cam ns h.now (.inr (.inr (.inl rfl))) ha h1 h2).mono ?_
  rintro e w' ⟨rfl, N, S, K⟩
  exact ⟨rfl, ⟨S, (K p (.inr (.inl rfl)) h.ap.1).trans h.blk, N, (K t (.inr (.inr (.inr rfl))) (fun e => h.ap.2.2.1 e.symm)).trans h.take, h.ap⟩, fun k hk => K k (.inl hk) (fun e => h.ap.2.2.2.2.1 (e ▸ hk))⟩
theorem SnS.tloadS {W : World} {m b v most : Nat} {th : Int} {p q t cam mst : Nat} {D : Nat → Prop} {w : World} {next made : Nat} {cs : List Nat} {n : Nat} {l : List Value} {np ns ts : Nat} (h : SnS W m b v most th p q t cam mst D w next made cs n l np ns 0 ts 0 false) (hc : cellN cs cam < mst) (ha : cam < 18446744073709551616) (h1 : made < 1099511627776) (h2 : n < 1099511627776) :
    Calls Tryz.prog 102 #[.pointer (some ⟨t, 0, none⟩), .pointer (some ⟨v, 0, none⟩)] w fun e w' => e = .returned (.bool false) ∧ SnS W m b v most th p q t cam mst D w' next (made + 1) cs (n + 1) l np ns 1 (cellN cs cam) 0 false ∧ Kept D w w' := by
  refine (h.sr.tload t cam mst ts h.take (.inr (.inr (.inr rfl))) ha h1 h2).mono ?_
  rintro e w' ⟨rfl, N, S, K⟩
  have d : decide (mst ≤ cellN cs cam) = false := decide_eq_false (by omega)
  rw [if_neg (by omega), if_neg (by omega)] at N
  exact ⟨by rw [d], ⟨S, (K p (.inr (.inl rfl)) h.ap.2.1).trans h.blk, (K q (.inr (.inr (.inl rfl))) h.ap.2.2.1).trans h.now, N, h.ap⟩, fun k hk => K k (.inl hk) (fun e => h.ap.2.2.2.2.2 (e ▸ hk))⟩
theorem SnS.tcasS {W : World} {m b v most : Nat} {th : Int} {p q t cam mst : Nat} {D : Nat → Prop} {w : World} {next made : Nat} {cs : List Nat} {n : Nat} {l : List Value} {np ns ts : Nat} (h : SnS W m b v most th p q t cam mst D w next made cs n l np ns 1 ts 0 false) (ha : cam < 18446744073709551616) (hs : ts + 1 < 18446744073709551616) (h1 : made < 1099511627776) (h2 : n < 1099511627776) :
    Calls Tryz.prog 102 #[.pointer (some ⟨t, 0, none⟩), .pointer (some ⟨v, 0, none⟩)] w fun e w' => e = .returned (.bool true) ∧ SnS W m b v most th p q t cam mst D w' next (made + 1) (casN most cs cam ts (ts + 1)) (n + 1) l np ns 2 ts 0 (casOk most cs cam ts) ∧ Kept D w w' := by
  refine (h.sr.tcas t cam mst ts h.take (.inr (.inr (.inr rfl))) ha hs h1 h2).mono ?_
  rintro e w' ⟨rfl, N, S, K⟩
  exact ⟨rfl, ⟨S, (K p (.inr (.inl rfl)) h.ap.2.1).trans h.blk, (K q (.inr (.inr (.inl rfl))) h.ap.2.2.1).trans h.now, N, h.ap⟩, fun k hk => K k (.inl hk) (fun e => h.ap.2.2.2.2.2 (e ▸ hk))⟩

theorem ss_look {W : World} {m b v most : Nat} {th : Int} {p q t cam fst mst slot seen gen hd st : Nat} {cnt err : Int} {D : Nat → Prop} {w : World} {next made : Nat} {cs : List Nat} {n : Nat} {ns ts : Nat} (h : SnS W m b v most th p q t cam mst D w next made cs n (snL cam fst cnt mst 1 slot seen gen (.pointer (some ⟨q, 0, none⟩)) (.pointer (some ⟨t, 0, none⟩)) hd st err) 0 ns 0 ts 0 false) (hs : slot < 256) (x : Nat) (hx : cellN cs (sumN fst slot) = x) (hx2 : x < 18446744073709551616) (hk : x % 4 = 0) (hg : x / 4 % 1048576 < 1048575) (h1 : made < 1099511627776) (h2 : n < 1099511627776) :
    Calls Tryz.prog 84 #[.pointer (some ⟨p, 0, none⟩), .pointer (some ⟨v, 0, none⟩)] w fun e w' => e = .returned (.bool false) ∧ SnS W m b v most th p q t cam mst D w' next (made + 1) cs (n + 1) (snL cam fst cnt mst 2 slot x (x / 4 % 1048576) (.pointer (some ⟨q, 0, none⟩)) (.pointer (some ⟨t, 0, none⟩)) hd st err) 0 ns 0 ts 0 false ∧ Kept D w w' := by
  refine step_snLook h.blk _ 2 false (by simp) _ fun w1 C1 => ?_
  refine (sn_lookT (h.chg C1).blk hs _ x hx2 (fun u => SnS W m b v most th p q t cam mst D u next (made + 1) cs (n + 1) (snL cam fst cnt mst 1 slot seen gen (.pointer (some ⟨q, 0, none⟩)) (.pointer (some ⟨t, 0, none⟩)) hd st err) 0 ns 0 ts 0 false ∧ Kept D w u) (fun w2 C2 => ?_) hk hg).mono ?_
  · refine (((h.chg C1).chg C2).load _ (sumN_lt _ _) h1 h2).mono ?_
    rintro e w3 ⟨rfl, S, K⟩
    exact ⟨by rw [hx], ⟨S, ((h.kept C1).trans ((h.chg C1).kept C2)).trans K⟩, S.blk⟩
  · rintro e w4 ⟨rfl, ⟨u, ⟨S, K⟩, C⟩, B⟩
    exact ⟨rfl, ⟨(S.setp C B).1, K.trans (S.setp C B).2⟩, B.cell 4⟩
theorem ss_claim {W : World} {m b v most : Nat} {th : Int} {p q t cam fst mst slot seen gen hd st : Nat} {cnt err : Int} {D : Nat → Prop} {w : World} {next made : Nat} {cs : List Nat} {n : Nat} {ns ts : Nat} (h : SnS W m b v most th p q t cam mst D w next made cs n (snL cam fst cnt mst 2 slot seen gen (.pointer (some ⟨q, 0, none⟩)) (.pointer (some ⟨t, 0, none⟩)) hd st err) 0 ns 0 ts 0 false) (hs : slot < 256) (hg : gen < 18446744073709551616) (hc : casOk most cs (sumN fst slot) seen = true) (h1 : made < 1099511627776) (h2 : n < 1099511627776) :
    Calls Tryz.prog 84 #[.pointer (some ⟨p, 0, none⟩), .pointer (some ⟨v, 0, none⟩)] w fun e w' => e = .returned (.bool false) ∧ SnS W m b v most th p q t cam mst D w' next (made + 1) (casN most cs (sumN fst slot) seen (wordN 1 gen 0)) (n + 1) (snL cam fst cnt mst 3 slot seen gen (.pointer (some ⟨q, 0, none⟩)) (.pointer (some ⟨t, 0, none⟩)) hd st err) 0 ns 0 ts 0 false ∧ Kept D w w' := by
  refine step_snClaim h.blk _ 3 false (by simp) _ fun w1 C1 => ?_
  refine (sn_claimT (h.chg C1).blk hs hg _ (fun u => SnS W m b v most th p q t cam mst D u next (made + 1) (casN most cs (sumN fst slot) seen (wordN 1 gen 0)) (n + 1) (snL cam fst cnt mst 2 slot seen gen (.pointer (some ⟨q, 0, none⟩)) (.pointer (some ⟨t, 0, none⟩)) hd st err) 0 ns 0 ts 0 false ∧ Kept D w u) (fun w2 C2 => ?_)).mono ?_
  · refine (((h.chg C1).chg C2).cas _ seen _ (sumN_lt _ _) (wordN_lt _ _ _) h1 h2).mono ?_
    rintro e w3 ⟨rfl, S, K⟩
    exact ⟨by rw [hc], ⟨S, ((h.kept C1).trans ((h.chg C1).kept C2)).trans K⟩, S.blk⟩
  · rintro e w4 ⟨rfl, ⟨u, ⟨S, K⟩, C⟩, B⟩
    exact ⟨rfl, ⟨(S.setp C B).1, K.trans (S.setp C B).2⟩, B.cell 4⟩
theorem ss_ask {W : World} {m b v most : Nat} {th : Int} {p q t cam fst mst slot seen gen hd st : Nat} {cnt err : Int} {D : Nat → Prop} {w : World} {next made : Nat} {cs : List Nat} {n : Nat} {ns ts : Nat} (h : SnS W m b v most th p q t cam mst D w next made cs n (snL cam fst cnt mst 3 slot seen gen (.pointer (some ⟨q, 0, none⟩)) (.pointer (some ⟨t, 0, none⟩)) hd st err) 0 ns 0 ts 0 false) (ha : cam < 18446744073709551616) (h1 : made < 1099511627776) (h2 : n < 1099511627776) :
    Calls Tryz.prog 84 #[.pointer (some ⟨p, 0, none⟩), .pointer (some ⟨v, 0, none⟩)] w fun e w' => e = .returned (.bool false) ∧ SnS W m b v most th p q t cam mst D w' next (made + 1) cs (n + 1) (snL cam fst cnt mst 4 slot seen gen (.pointer (some ⟨q, 0, none⟩)) (.pointer (some ⟨t, 0, none⟩)) hd st err) 2 (cellN cs cam) 0 ts 0 false ∧ Kept D w w' := by
  refine step_snAsk h.blk _ 4 false (by simp) _ fun w1 C1 => ?_
  refine (sn_ask (h.chg C1).blk _ (fun u => SnS W m b v most th p q t cam mst D u next (made + 1) cs (n + 1) (snL cam fst cnt mst 3 slot seen gen (.pointer (some ⟨q, 0, none⟩)) (.pointer (some ⟨t, 0, none⟩)) hd st err) 2 (cellN cs cam) 0 ts 0 false ∧ Kept D w u) ?_).mono ?_
  · refine ((h.chg C1).nowS ha h1 h2).mono ?_
    rintro e w3 ⟨rfl, S, K⟩
    exact ⟨rfl, ⟨S, (h.kept C1).trans K⟩, S.blk⟩
  · rintro e w4 ⟨rfl, ⟨u, ⟨S, K⟩, C⟩, B⟩
    exact ⟨rfl, ⟨(S.setp C B).1, K.trans (S.setp C B).2⟩, B.cell 4⟩
theorem ss_early {W : World} {m b v most : Nat} {th : Int} {p q t cam fst mst slot seen gen hd st : Nat} {cnt err : Int} {D : Nat → Prop} {w : World} {next made : Nat} {cs : List Nat} {n : Nat} {ns ts : Nat} (h : SnS W m b v most th p q t cam mst D w next made cs n (snL cam fst cnt mst 4 slot seen gen (.pointer (some ⟨q, 0, none⟩)) (.pointer (some ⟨t, 0, none⟩)) hd st err) 2 ns 0 ts 0 false) (hs : slot < 256) (hg : gen < 18446744073709551616) (hn : ns < 18446744073709551616) (h1 : made < 1099511627776) (h2 : n < 1099511627776) :
    Calls Tryz.prog 84 #[.pointer (some ⟨p, 0, none⟩), .pointer (some ⟨v, 0, none⟩)] w fun e w' => e = .returned (.bool false) ∧ SnS W m b v most th p q t cam mst D w' next (made + 1) (stN most cs (sumN fst slot) (wordN 2 gen ns)) (n + 1) (snL cam fst cnt mst 5 slot seen gen (.pointer (some ⟨q, 0, none⟩)) (.pointer (some ⟨t, 0, none⟩)) hd st err) 2 ns 0 ts 0 false ∧ Kept D w w' := by
  refine step_snEarly h.blk _ 5 false (by simp) _ fun w1 C1 => ?_
  refine (sn_early (h.chg C1).blk hs hg (h.chg C1).now hn _ (fun u => SnS W m b v most th p q t cam mst D u next (made + 1) (stN most cs (sumN fst slot) (wordN 2 gen ns)) (n + 1) (snL cam fst cnt mst 4 slot seen gen (.pointer (some ⟨q, 0, none⟩)) (.pointer (some ⟨t, 0, none⟩)) hd st err) 2 ns 0 ts 0 false ∧ Kept D w u) (fun w2 C2 => ?_)).mono ?_
  · refine (((h.chg C1).chg C2).store _ _ (sumN_lt _ _) (wordN_lt _ _ _) h1 h2).mono ?_
    rintro e w3 ⟨rfl, S, K⟩
    exact ⟨rfl, ⟨S, ((h.kept C1).trans ((h.chg C1).kept C2)).trans K⟩, S.blk⟩
  · rintro e w4 ⟨rfl, ⟨u, ⟨S, K⟩, C⟩, B⟩
    exact ⟨rfl, ⟨(S.setp C B).1, K.trans (S.setp C B).2⟩, B.cell 4⟩
theorem ss_load {W : World} {m b v most : Nat} {th : Int} {p q t cam fst mst slot seen gen hd st : Nat} {cnt err : Int} {D : Nat → Prop} {w : World} {next made : Nat} {cs : List Nat} {n : Nat} {ns ts : Nat} (h : SnS W m b v most th p q t cam mst D w next made cs n (snL cam fst cnt mst 5 slot seen gen (.pointer (some ⟨q, 0, none⟩)) (.pointer (some ⟨t, 0, none⟩)) hd st err) 2 ns 0 ts 0 false) (hc : cellN cs cam < mst) (ha : cam < 18446744073709551616) (h1 : made < 1099511627776) (h2 : n < 1099511627776) :
    Calls Tryz.prog 84 #[.pointer (some ⟨p, 0, none⟩), .pointer (some ⟨v, 0, none⟩)] w fun e w' => e = .returned (.bool false) ∧ SnS W m b v most th p q t cam mst D w' next (made + 1) cs (n + 1) (snL cam fst cnt mst 5 slot seen gen (.pointer (some ⟨q, 0, none⟩)) (.pointer (some ⟨t, 0, none⟩)) hd st err) 2 ns 1 (cellN cs cam) 0 false ∧ Kept D w w' := by
  refine step_snShoot h.blk _ 5 false (by simp) _ fun w1 C1 => ?_
  refine (sn_shootF (h.chg C1).blk _ (fun u => SnS W m b v most th p q t cam mst D u next (made + 1) cs (n + 1) (snL cam fst cnt mst 5 slot seen gen (.pointer (some ⟨q, 0, none⟩)) (.pointer (some ⟨t, 0, none⟩)) hd st err) 2 ns 1 (cellN cs cam) 0 false ∧ Kept D w u) ?_).mono ?_
  · refine ((h.chg C1).tloadS hc ha h1 h2).mono ?_
    rintro e w3 ⟨rfl, S, K⟩
    exact ⟨rfl, S, (h.kept C1).trans K⟩
  · rintro e w4 ⟨rfl, S, K⟩
    exact ⟨rfl, ⟨S, K⟩, S.blk.cell 4⟩
theorem ss_cas {W : World} {m b v most : Nat} {th : Int} {p q t cam fst mst slot seen gen hd st : Nat} {cnt err : Int} {D : Nat → Prop} {w : World} {next made : Nat} {cs : List Nat} {n : Nat} {ns ts : Nat} (h : SnS W m b v most th p q t cam mst D w next made cs n (snL cam fst cnt mst 5 slot seen gen (.pointer (some ⟨q, 0, none⟩)) (.pointer (some ⟨t, 0, none⟩)) hd st err) 2 ns 1 ts 0 false) (ha : cam < 18446744073709551616) (hs : ts + 1 < 18446744073709551616) (h1 : made < 1099511627776) (h2 : n < 1099511627776) :
    Calls Tryz.prog 84 #[.pointer (some ⟨p, 0, none⟩), .pointer (some ⟨v, 0, none⟩)] w fun e w' => e = .returned (.bool false) ∧ SnS W m b v most th p q t cam mst D w' next (made + 1) (casN most cs cam ts (ts + 1)) (n + 1) (snL cam fst cnt mst 6 slot seen gen (.pointer (some ⟨q, 0, none⟩)) (.pointer (some ⟨t, 0, none⟩)) hd st err) 2 ns 2 ts 0 (casOk most cs cam ts) ∧ Kept D w w' := by
  refine step_snShoot h.blk _ 6 false (by simp) _ fun w1 C1 => ?_
  refine (sn_shootT (cl := cam) (mx := mst) (sg := ts) (mv := casOk most cs cam ts) (h.chg C1).blk h.ap.2.1 _ (fun u => SnS W m b v most th p q t cam mst D u next (made + 1) (casN most cs cam ts (ts + 1)) (n + 1) (snL cam fst cnt mst 5 slot seen gen (.pointer (some ⟨q, 0, none⟩)) (.pointer (some ⟨t, 0, none⟩)) hd st err) 2 ns 2 ts 0 (casOk most cs cam ts) ∧ Kept D w u) ?_).mono ?_
  · refine ((h.chg C1).tcasS ha hs h1 h2).mono ?_
    rintro e w3 ⟨rfl, S, K⟩
    exact ⟨rfl, ⟨S, (h.kept C1).trans K⟩, S.blk, S.take⟩
  · rintro e w4 ⟨rfl, ⟨u, ⟨S, K⟩, C⟩, B⟩
    exact ⟨rfl, ⟨(S.setp C B).1, K.trans (S.setp C B).2⟩, B.cell 4⟩
theorem ss_exact {W : World} {m b v most : Nat} {th : Int} {p q t cam fst mst slot seen gen hd st : Nat} {cnt err : Int} {D : Nat → Prop} {w : World} {next made : Nat} {cs : List Nat} {n : Nat} {ns ts : Nat} {mv : Bool} (h : SnS W m b v most th p q t cam mst D w next made cs n (snL cam fst cnt mst 6 slot seen gen (.pointer (some ⟨q, 0, none⟩)) (.pointer (some ⟨t, 0, none⟩)) hd st err) 2 ns 2 ts 0 mv) (hs : slot < 256) (hg : gen < 1048576) (hn : ts < 18446744073709551616) (h1 : made < 1099511627776) (h2 : n < 1099511627776) :
    Calls Tryz.prog 84 #[.pointer (some ⟨p, 0, none⟩), .pointer (some ⟨v, 0, none⟩)] w fun e w' => e = .returned (.bool true) ∧ SnS W m b v most th p q t cam mst D w' next (made + 1) (stN most cs (sumN fst slot) (wordN 3 gen ts)) (n + 1) (snL cam fst cnt mst 8 slot seen gen (.pointer (some ⟨q, 0, none⟩)) (.pointer (some ⟨t, 0, none⟩)) (slot + 1 + gen * 65536) ts 0) 2 ns 2 ts 0 mv ∧ Kept D w w' := by
  refine step_snExact h.blk _ 8 true (by simp) _ fun w1 C1 => ?_
  refine (sn_exact (h.chg C1).blk hs hg (h.chg C1).take hn h.ap.2.1 _ (fun u => SnS W m b v most th p q t cam mst D u next (made + 1) (stN most cs (sumN fst slot) (wordN 3 gen ts)) (n + 1) (snL cam fst cnt mst 6 slot seen gen (.pointer (some ⟨q, 0, none⟩)) (.pointer (some ⟨t, 0, none⟩)) hd st err) 2 ns 2 ts 0 mv ∧ Kept D w u) (fun w2 C2 => ?_)).mono ?_
  · refine (((h.chg C1).chg C2).store _ _ (sumN_lt _ _) (wordN_lt _ _ _) h1 h2).mono ?_
    rintro e w3 ⟨rfl, S, K⟩
    exact ⟨rfl, ⟨⟨S, ((h.kept C1).trans ((h.chg C1).kept C2)).trans K⟩, S.take⟩, S.blk⟩
  · rintro e w4 ⟨rfl, ⟨u, ⟨S, K⟩, C⟩, B⟩
    exact ⟨rfl, ⟨(S.setp C B).1, K.trans (S.setp C B).2⟩, B.cell 4⟩
end Go.Proofs.YtlgkioaomcobdaaGreat
