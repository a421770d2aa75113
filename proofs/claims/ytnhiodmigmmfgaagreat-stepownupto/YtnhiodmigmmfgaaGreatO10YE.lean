/- SameUint64s, SameAccesses with values. -/
import Derived.Test.YtnhiodmigmmfgaaGreatO8RMemX
import Derived.Test.YtnhiodmigmmfgaaGreatO9Yk
import Derived.BigQuiet
import Derived.Test.YtnhiodmigmmfgaaGreatO7Y6
import Derived.BigRegion
import Derived.Deep.CutRange
namespace Go.Proofs.YtnhiodmigmmfgaaGreat
open Go.RowKit Go.Shelf
set_option linter.unusedVariables false

theorem drewN_addY (W : World) (a b : Nat) : W.drewN (a + b) = (W.drewN a).drewN b := by simp [World.drewN, Nat.add_assoc]
def UReads (W : World) (p : Option Addr) (xs : List Nat) : Prop :=
  xs = [] ∨ ∃ bk off, p = some ⟨bk, off, none⟩ ∧ bk < W.heap.size ∧ ∀ (i x : Nat), xs[i]? = some x → W.cell? ⟨bk, off + i, none⟩ = some (.int .u64 (x : Int))
theorem UReads.get {W : World} {p : Option Addr} {xs : List Nat} (h : UReads W p xs) (i x : Nat) (hx : xs[i]? = some x) : ∃ bk off, p = some ⟨bk, off, none⟩ ∧ bk < W.heap.size ∧ W.cell? ⟨bk, off + i, none⟩ = some (.int .u64 (x : Int)) := by
  rcases h with rfl | ⟨bk, off, rfl, hb, h⟩
  · simp at hx
  · exact ⟨bk, off, rfl, hb, h i x hx⟩
theorem UReads.up {W X : World} {p : Option Addr} {xs : List Nat} {F : Nat → Prop} (h : UReads W p xs) (hc : Chg F W X) (hF : ∀ b, F b → W.heap.size ≤ b) : UReads X p xs := by
  rcases h with rfl | ⟨bk, off, rfl, hb, h⟩
  · exact .inl rfl
  · exact .inr ⟨bk, off, rfl, Nat.lt_of_lt_of_le hb hc.size, fun i x hx => cell_chg hc (h i x hx) (fun e => by
      have := hF _ e
      simp at this
      omega)⟩
theorem add_plain (bk off i : Nat) : (⟨bk, off, none⟩ : Addr).add i = ⟨bk, off + i, none⟩ := by
  unfold Addr.add
  split <;> simp
theorem UReads.of_reads {W : World} {p : Option Addr} {xs : List Nat} (h : Reads W p xs) (hl : ∀ q, p = some q → xs ≠ [] → q.block < W.heap.size) : UReads W p xs := by
  rcases Classical.em (xs = []) with e | e
  · exact .inl e
  · rcases h with h | ⟨ad, rfl, h⟩
    · exact absurd h e
    · obtain ⟨bk, off, spot⟩ := ad
      obtain ⟨x, r, rfl⟩ := List.exists_cons_of_ne_nil e
      have c0 := h 0 (u64V x) (by simp)
      have hspot : spot = none := by simpa [Addr.add] using World.cell?_spot c0
      subst hspot
      refine .inr ⟨bk, off, rfl, hl _ rfl e, fun i y hy => ?_⟩
      rw [← add_plain]
      exact h i (u64V y) (by rw [List.getElem?_map, hy]; rfl)
theorem UReads.of_row {W : World} {p : Option Addr} {c : Nat} {vals : List Nat} (h : W.ownsRow 0 75 1 (.slice p vals.length c) vals.length (vals.map u64V)) : UReads W p vals :=
  UReads.of_reads (Reads.of_row h) (fun q hq _ => by subst hq; exact row_lt h _ rfl)

set_option maxRecDepth 100000 in
set_option maxHeartbeats 2000000 in
theorem s_sameUq (p q : Option Addr) (c d : Nat) (la : List Nat) (W : World) (ha : UReads W p la) (hb : UReads W q la) (hla : la.length ≤ 17592186043904) :
    Calls Tryz.prog 48 #[.slice p la.length c, .slice q la.length d] W fun e W' => e = .returned (.bool true) ∧ ∃ n, W' = W.drewN n := by
  have HA := keepH ha
  have HB := keepH hb
  clear ha hb
  go_enter Tryz.func48, Tryz.ntmps48
  go_wp2_with fail
  go_loopw [5] (fun s wr => ∃ k : Nat, k ≤ la.length ∧ s = .int .i64 (k : Int) ∧ Hid (∃ n, wr = W.drewN n)) (fun s _ => la.length - (intOf s).toNat)
  case atStart => exact ⟨0, by omega, rfl, keepH ⟨0, rfl⟩⟩
  case round =>
    obtain ⟨k, hk, rfl, HK⟩ := hrel
    by_cases hlt : k < la.length
    · have t1 : (k : Int) < (la.length : Int) := by omega
      obtain ⟨x, hx⟩ : ∃ x, la[k]? = some x := ⟨la[k], List.getElem?_eq_getElem hlt⟩
      obtain ⟨bk, off, rfl, _, c0⟩ := (HA.out.up (X := wr) (F := fun _ => False) (by obtain ⟨n, e⟩ := HK.out; rw [e]; exact drewN_chgY W n) (fun _ x => x.elim)).get k x hx
      obtain ⟨bk', off', rfl, _, d0⟩ := (HB.out.up (X := wr) (F := fun _ => False) (by obtain ⟨n, e⟩ := HK.out; rw [e]; exact drewN_chgY W n) (fun _ x => x.elim)).get k x hx
      obtain ⟨z, hz⟩ : ∃ z : Int, z = (x : Int) := ⟨_, rfl⟩
      rw [← hz] at c0 d0
      clear hx hz
      go_wp2_with fail
      go_quiet (fail)
      go_wp2_with fail
      go_roundw
      case rel => exact ⟨k + 1, by omega, by first | rfl | go_num, keepH (by obtain ⟨n, e⟩ := HK.out; exact ⟨n + nq, by rw [e, drewN_addY]⟩)⟩
      case measure => simp [intOf]; omega
    · obtain rfl : k = la.length := by omega
      have t1 : ¬ (la.length : Int) < (la.length : Int) := by omega
      go_wp2_with fail
      go_ret
      exact ⟨by simp, HK.out⟩

theorem acc_cell {W : World} {g n c : Nat} {lk : List Acc} (h : W.ownsRow 0 144 8 (.slice (some ⟨g, 0, none⟩) n c) n (accRow lk)) (j f : Nat) (x : Acc) (hj : lk[j]? = some x) (hn : j < n) (hf : f < 8) (v : Value) (hv : x.cells[f]? = some v) : W.cell? ⟨g, j * 8 + f, none⟩ = some v := by
  rw [World.ownsRow.cellAt h (j * 8 + f) (by omega), accRow_get lk j f hf, hj]
  exact hv

/-- Two accesses tell the same, with their values. -/
def LikeV (W : World) (x y : Acc) : Prop := x.th = y.th ∧ x.kind = y.kind ∧ x.addr = y.addr ∧ x.a = y.a ∧ x.b = y.b ∧ x.got = y.got ∧ x.ok = y.ok ∧ ∃ vl : List Nat, vl.length ≤ 17592186043904 ∧ (∃ p c, x.vs = .slice p vl.length c ∧ UReads W p vl) ∧ ∃ p c, y.vs = .slice p vl.length c ∧ UReads W p vl

set_option maxRecDepth 100000 in
set_option maxHeartbeats 4000000 in
theorem s_sameAV (p q : Option Addr) (c d n : Nat) (la lb : List Acc) (W : World) (ha : W.ownsRow 0 144 8 (.slice p n c) n (accRow la)) (hb : W.ownsRow 0 144 8 (.slice q n d) n (accRow lb)) (hla : la.length = n) (hlb : lb.length = n) (hk : ∀ (i : Nat) (x y : Acc), la[i]? = some x → lb[i]? = some y → LikeV W x y) (hn : n ≤ 1099511627776) :
    Calls Tryz.prog 46 #[.slice p n c, .slice q n d] W fun e W' => e = .returned (.bool true) ∧ ∃ q, W' = W.drewN q := by
  have HA0 := keepH ha
  have HB0 := keepH hb
  have HLA := keepH hla
  have HLB := keepH hlb
  have HK := keepH hk
  clear ha hb hla hlb hk
  go_enter Tryz.func46, Tryz.ntmps46
  go_wp2_with fail
  go_loopw [5] (fun s wr => ∃ k : Nat, k ≤ n ∧ s = .int .i64 (k : Int) ∧ Hid (∃ q, wr = W.drewN q)) (fun s _ => n - (intOf s).toNat)
  case atStart => exact ⟨0, by omega, rfl, keepH ⟨0, rfl⟩⟩
  case round =>
    obtain ⟨k, hkn, rfl, HQ⟩ := hrel
    have HA : Hid (wr.ownsRow 0 144 8 (.slice p n c) n (accRow la)) := by obtain ⟨q, e⟩ := HQ.out; rw [e]; exact row_kept (W := W) HA0.out fun k _ => rfl
    have HB : Hid (wr.ownsRow 0 144 8 (.slice q n d) n (accRow lb)) := by obtain ⟨q, e⟩ := HQ.out; rw [e]; exact row_kept (W := W) HB0.out fun k _ => rfl
    by_cases hlt : k < n
    · have t1 : (k : Int) < (n : Int) := by omega
      obtain ⟨x, hx⟩ : ∃ x, la[k]? = some x := ⟨la[k]'(by have := HLA.out; omega), List.getElem?_eq_getElem _⟩
      obtain ⟨y, hy⟩ : ∃ y, lb[k]? = some y := ⟨lb[k]'(by have := HLB.out; omega), List.getElem?_eq_getElem _⟩
      obtain ⟨e0, e1, e2, e3, e4, e5, e6, vl, hvl, ⟨xp, xc, e7, hxr⟩, yp, yc, e8, hyr⟩ := HK.out k x y hx hy
      have HU : Hid (∀ m, Calls Tryz.prog 48 #[.slice xp vl.length xc, .slice yp vl.length yc] (wr.drewN m) fun e W' => e = .returned (.bool true) ∧ ∃ n, W' = (wr.drewN m).drewN n) := fun m => by
        obtain ⟨q, e⟩ := HQ.out
        have cq : Chg (fun _ => False) W (wr.drewN m) := by rw [e]; exact (drewN_chgY W q).trans (drewN_chgY _ m) (fun _ _ x => x) (fun _ _ x => x)
        exact s_sameUq xp yp xc yc vl _ (hxr.up cq (fun _ x => x.elim)) (hyr.up cq (fun _ x => x.elim)) hvl
      obtain ⟨g1, c1, hg1⟩ := slice_pos HA.out (by omega)
      obtain ⟨g2, c2, hg2⟩ := slice_pos HB.out (by omega)
      simp only [Value.slice.injEq, true_and] at hg1 hg2
      obtain ⟨rfl, rfl⟩ := hg1
      obtain ⟨rfl, rfl⟩ := hg2
      have a0 : wr.cell? ⟨g1, k * 8, none⟩ = some (.int .i64 x.th) := acc_cell HA.out k 0 x hx hlt (by decide) _ rfl
      have a1 : wr.cell? ⟨g1, k * 8 + 1, none⟩ = some (.int .u8 (x.kind : Int)) := acc_cell HA.out k 1 x hx hlt (by decide) _ rfl
      have a2 : wr.cell? ⟨g1, k * 8 + 2, none⟩ = some (.int .u64 (x.addr : Int)) := acc_cell HA.out k 2 x hx hlt (by decide) _ rfl
      have a3 : wr.cell? ⟨g1, k * 8 + 3, none⟩ = some (.int .u64 (x.a : Int)) := acc_cell HA.out k 3 x hx hlt (by decide) _ rfl
      have a4 : wr.cell? ⟨g1, k * 8 + 4, none⟩ = some (.int .u64 (x.b : Int)) := acc_cell HA.out k 4 x hx hlt (by decide) _ rfl
      have a5 : wr.cell? ⟨g1, k * 8 + 5, none⟩ = some (.slice xp vl.length xc) := acc_cell HA.out k 5 x hx hlt (by decide) _ (by rw [← e7]; rfl)
      have a6 : wr.cell? ⟨g1, k * 8 + 6, none⟩ = some (.int .u64 (x.got : Int)) := acc_cell HA.out k 6 x hx hlt (by decide) _ rfl
      have a7 : wr.cell? ⟨g1, k * 8 + 7, none⟩ = some (.bool x.ok) := acc_cell HA.out k 7 x hx hlt (by decide) _ rfl
      have b0 : wr.cell? ⟨g2, k * 8, none⟩ = some (.int .i64 x.th) := acc_cell HB.out k 0 y hy hlt (by decide) _ (by rw [e0]; rfl)
      have b1 : wr.cell? ⟨g2, k * 8 + 1, none⟩ = some (.int .u8 (x.kind : Int)) := acc_cell HB.out k 1 y hy hlt (by decide) _ (by rw [e1]; rfl)
      have b2 : wr.cell? ⟨g2, k * 8 + 2, none⟩ = some (.int .u64 (x.addr : Int)) := acc_cell HB.out k 2 y hy hlt (by decide) _ (by rw [e2]; rfl)
      have b3 : wr.cell? ⟨g2, k * 8 + 3, none⟩ = some (.int .u64 (x.a : Int)) := acc_cell HB.out k 3 y hy hlt (by decide) _ (by rw [e3]; rfl)
      have b4 : wr.cell? ⟨g2, k * 8 + 4, none⟩ = some (.int .u64 (x.b : Int)) := acc_cell HB.out k 4 y hy hlt (by decide) _ (by rw [e4]; rfl)
      have b5 : wr.cell? ⟨g2, k * 8 + 5, none⟩ = some (.slice yp vl.length yc) := acc_cell HB.out k 5 y hy hlt (by decide) _ (by rw [← e8]; rfl)
      have b6 : wr.cell? ⟨g2, k * 8 + 6, none⟩ = some (.int .u64 (x.got : Int)) := acc_cell HB.out k 6 y hy hlt (by decide) _ (by rw [e5]; rfl)
      have b7 : wr.cell? ⟨g2, k * 8 + 7, none⟩ = some (.bool x.ok) := acc_cell HB.out k 7 y hy hlt (by decide) _ (by rw [e6]; rfl)
      obtain ⟨th, kind, addr, xa, xb, vs, vals, got, ok⟩ := x
      simp only at a0 a1 a2 a3 a4 a6 a7 b0 b1 b2 b3 b4 b6 b7
      clear e0 e1 e2 e3 e4 e5 e6 e7 e8 hx hy hxr hyr
      go_wp2_with fail
      dsimp only [List.append]
      refine wp_region_quiet_lit (by kernel_rfl) ((congrArg (Region.lexB .any) (a₂ := (opsIn 6 (Tryz.f46.body.getD .skip)).toArray) (by kernel_rfl)).trans lexA) ?_
      repeat (go_big_quiet_step (first | (go_at_call 48; refine (HU.out _).mono ?_; rintro x y ⟨rfl, m, rfl⟩; exact ⟨rfl, _, (drewN_addY _ _ _).symm⟩)))
      refine wpQuiet_nil ?_
      intro _ hw'
      obtain ⟨nq, hw''⟩ := hw'
      subst hw''
      go_wp2_with fail
      go_roundw
      case rel => exact ⟨k + 1, by omega, by first | rfl | go_num, keepH (by obtain ⟨q, e⟩ := HQ.out; exact ⟨q + nq, by rw [e, drewN_addY]⟩)⟩
      case measure => simp [intOf]; omega
    · obtain rfl : k = n := by omega
      have t1 : ¬ (k : Int) < (k : Int) := by omega
      go_wp2_with fail
      go_ret
      exact ⟨by simp, HQ.out⟩
end Go.Proofs.YtnhiodmigmmfgaaGreat
/- The law's own look at a history. -/
namespace Go.Proofs.YtnhiodmigmmfgaaGreat
open Go.RowKit Go.Shelf
set_option linter.unusedVariables false

theorem evRow_at : ∀ (l : List Ev) (j f : Nat), f < 4 → (evRow l)[j * 4 + f]? = (match l[j]? with | some e => e.cells[f]? | none => none)
  | [], j, f, hf => by simp [evRow]
  | e :: l, 0, f, hf => by
    have h4 : e.cells.length = 4 := rfl
    show (e.cells ++ evRow l)[0 * 4 + f]? = e.cells[f]?
    rw [List.getElem?_append_left (by omega)]
    simp
  | e :: l, j + 1, f, hf => by
    have h4 : e.cells.length = 4 := rfl
    show (e.cells ++ evRow l)[(j + 1) * 4 + f]? = _
    rw [List.getElem?_append_right (by omega), show (j + 1) * 4 + f - e.cells.length = j * 4 + f by omega, evRow_at l j f hf]
    simp
theorem ev_cellY {W : World} {g n c : Nat} {l : List Ev} (h : W.ownsRow 0 100 4 (.slice (some ⟨g, 0, none⟩) n c) n (evRow l)) (j f : Nat) (x : Ev) (hj : l[j]? = some x) (hn : j < n) (hf : f < 4) (v : Value) (hv : x.cells[f]? = some v) : W.cell? ⟨g, j * 4 + f, none⟩ = some v := by
  rw [World.ownsRow.cellAt h (j * 4 + f) (by omega), evRow_at l j f hf, hj]
  exact hv
end Go.Proofs.YtnhiodmigmmfgaaGreat
/- The law's procs of many lists of plans. -/
namespace Go.Proofs.YtnhiodmigmmfgaaGreat
open Go.RowKit Go.Shelf
set_option linter.unusedVariables false

/-- Lists of plans as they lie in memory, all of it below B. -/
def ThsAt (W : World) (B : Nat) (p : Option Addr) (ll : List (List PlP)) (ap : Nat → Option Addr) (ac : Nat → Nat) (lp : Nat → Nat → Option Addr) (lc : Nat → Nat → Nat) : Prop := ∀ (i : Nat) (l : List PlP), ll[i]? = some l → (∃ bk off, p = some ⟨bk, off, none⟩ ∧ bk < B ∧ W.cell? ⟨bk, off + i, none⟩ = some (.slice (ap i) l.length (ac i))) ∧ PlansAt W B (ap i) l (lp i) (lc i)
theorem ThsAt.low {W Y : World} {B : Nat} {p : Option Addr} {ll : List (List PlP)} {ap : Nat → Option Addr} {ac : Nat → Nat} {lp : Nat → Nat → Option Addr} {lc : Nat → Nat → Nat} (h : ThsAt W B p ll ap ac lp lc) (hl : ∀ k, k < B → Y.heap[k]? = W.heap[k]?) : ThsAt Y B p ll ap ac lp lc := fun i l hi => by
  obtain ⟨⟨bk, off, e, hb, c0⟩, hd⟩ := h i l hi
  exact ⟨⟨bk, off, e, hb, cell_low hl hb c0⟩, hd.low hl⟩
theorem ThsAt.chg {W Y : World} {B : Nat} {p : Option Addr} {ll : List (List PlP)} {ap : Nat → Option Addr} {ac : Nat → Nat} {lp : Nat → Nat → Option Addr} {lc : Nat → Nat → Nat} (h : ThsAt W B p ll ap ac lp lc) (hB : B ≤ W.heap.size) (c : Chg (fun _ => False) W Y) : ThsAt Y B p ll ap ac lp lc := h.low (fun k hk => c.block k (by omega) (fun x => x))
def updV {α : Type} (f : Nat → α) (i : Nat) (x : α) : Nat → α := fun j => if j = i then x else f j
theorem range_updV {α : Type} (f : Nat → α) (n : Nat) (x : α) : (List.range n).map (updV f n x) = (List.range n).map f := List.map_congr_left fun j hj => by have := List.mem_range.1 hj; unfold updV; rw [if_neg (by omega)]
/-- What is laid when n lists are done. -/
structure PM (W X : World) (ll : List (List PlP)) (lp : Nat → Nat → Option Addr) (lc : Nat → Nat → Nat) (n : Nat) (tv sv : Value) (rv qv : Nat → Value) (pb : Nat → Nat → Nat) : Prop where
  o1 : X.ownsRow W.heap.size 76 1 tv n ((List.range n).map rv)
  o2 : X.ownsRow W.heap.size 120 1 sv n ((List.range n).map qv)
  r1 : ∀ (i : Nat) (l : List PlP), i < n → ll[i]? = some l → X.ownsRow W.heap.size 91 1 (rv i) l.length (ifL l (pb i) l.length)
  r2 : ∀ (i : Nat) (l : List PlP), i < n → ll[i]? = some l → X.ownsRow W.heap.size 123 1 (qv i) (ptL l (pb i) l.length).length (ptL l (pb i) l.length)
  pr : ∀ (i : Nat) (l : List PlP) (j : Nat) (q : PlP), i < n → ll[i]? = some l → l[j]? = some q → q.none = false → X.heap[pb i j]? = some (.cells #[.slice (lp i j) q.L.length (lc i j), .int .i64 0, .slice none 0 0] 122 (0, 0)) ∧ W.heap.size ≤ pb i j
  inj : ∀ (i i' : Nat) (l l' : List PlP) (j j' : Nat) (q q' : PlP), i < n → i' < n → ll[i]? = some l → ll[i']? = some l' → l[j]? = some q → l'[j']? = some q' → q.none = false → q'.none = false → (i < i' ∨ (i = i' ∧ j < j')) → pb i j < pb i' j'
  chg : Chg (fun _ => False) W X
theorem PM.start (W : World) (ll : List (List PlP)) (lp : Nat → Nat → Option Addr) (lc : Nat → Nat → Nat) (rv qv : Nat → Value) (pb : Nat → Nat → Nat) : PM W W ll lp lc 0 (.slice none 0 0) (.slice none 0 0) rv qv pb :=
  ⟨World.ownsRow_nil _ _ _ _, World.ownsRow_nil _ _ _ _, fun i l hi => by omega, fun i l hi => by omega, fun i l j q hi => by omega, fun i i' l l' j j' q q' hi => by omega, Chg.refl _ _⟩
theorem row_up {X : World} {B B' : Nat} {e : TypeId} {s : Nat} {v : Value} {n : Nat} {xs : List Value} (h : X.ownsRow B' e s v n xs) (hB : B ≤ B') : X.ownsRow B e s v n xs := by
  obtain ⟨h0, h1⟩ := h
  refine ⟨h0, ?_⟩
  rcases h1 with h1 | ⟨g, cap, cur, rfl, hb, r⟩
  · exact .inl h1
  · exact .inr ⟨g, cap, cur, rfl, by omega, r⟩
/-- One list more. -/
theorem PM.more {W X w3 w4 w5 : World} {ll : List (List PlP)} {lp : Nat → Nat → Option Addr} {lc : Nat → Nat → Nat} {n : Nat} {tv sv tv' sv' v7 v8 : Value} {rv qv : Nat → Value} {pb : Nat → Nat → Nat} {l : List PlP} {pc : Nat → Nat} {o o' : Obj} (h : PM W X ll lp lc n tv sv rv qv pb) (hl : ll[n]? = some l) (hB : PB X w3 l (lp n) (lc n) pc l.length v7 v8)
    (r1 : w4.ownsRow W.heap.size 76 1 tv' (n + 1) ((List.range n).map rv ++ [v7])) (r2 : (w3.alloc o).grownBy w4 tv.ownBlock) (s1 : w5.ownsRow W.heap.size 120 1 sv' (n + 1) ((List.range n).map qv ++ [v8])) (s2 : (w4.alloc o').grownBy w5 sv.ownBlock) : PM W w5 ll lp lc (n + 1) tv' sv' (updV rv n v7) (updV qv n v8) (updV pb n pc) := by
  have sz := h.chg.size
  have c3 := hB.chg
  have c4 : Chg (fun k => tv.ownBlock = some k) w3 w4 := ((Chg.refl (fun k => tv.ownBlock = some k) w3).alloc o).grown r2 (fun k e _ => e)
  have c5 : Chg (fun k => sv.ownBlock = some k) w4 w5 := ((Chg.refl (fun k => sv.ownBlock = some k) w4).alloc o').grown s2 (fun k e _ => e)
  have o1' : w3.ownsRow W.heap.size 76 1 tv n ((List.range n).map rv) := rowB_kept h.o1 (fun g hg => c3.block g (h.o1.lt g hg).2 (fun x => x))
  have o2' : w3.ownsRow W.heap.size 120 1 sv n ((List.range n).map qv) := rowB_kept h.o2 (fun g hg => c3.block g (h.o2.lt g hg).2 (fun x => x))
  have kp : ∀ {k : Nat} {cur : Array Value} {t : TypeId}, w3.heap[k]? = some (.cells cur t (0, 0)) → t ≠ 76 → t ≠ 120 → w5.heap[k]? = some (.cells cur t (0, 0)) := fun {k cur t} hk t1 t2 => by
    have a4 : w4.heap[k]? = some (.cells cur t (0, 0)) := (c4.block _ (lt_of hk) (fun e => by obtain ⟨_, cur', hc⟩ := row_typ o1' e; exact typ_ne hk hc t1 rfl)).trans hk
    refine (c5.block _ (lt_of a4) (fun e => ?_)).trans a4
    obtain ⟨_, cur', hc⟩ := row_typ o2' e
    exact typ_ne hk hc t2 rfl
  have kX : ∀ {k : Nat} {cur : Array Value} {t : TypeId}, X.heap[k]? = some (.cells cur t (0, 0)) → t ≠ 76 → t ≠ 120 → w5.heap[k]? = some (.cells cur t (0, 0)) := fun hk t1 t2 => kp ((c3.block _ (lt_of hk) (fun x => x)).trans hk) t1 t2
  have en : ∀ {α : Type} (f : Nat → α) (x : α), updV f n x n = x := fun f x => by unfold updV; rw [if_pos rfl]
  have eo : ∀ {α : Type} (f : Nat → α) (x : α) (i : Nat), i < n → updV f n x i = f i := fun f x i hi => by unfold updV; rw [if_neg (by omega)]
  refine ⟨?_, ?_, fun i l' hi hl' => ?_, fun i l' hi hl' => ?_, fun i l' j q hi hl' hq hn => ?_, fun i i' l1 l2 j j' q q' hi hi' h1 h2 h3 h4 h5 h6 h7 => ?_, ((h.chg.trans c3 (H := fun _ => False) (fun _ _ x => x) (fun _ _ x => x)).trans c4 (H := fun _ => False) (fun _ _ x => x) (fun k hk e => by have := (o1'.lt k e).1; omega)).trans c5 (fun _ _ x => x) (fun k hk e => by have := (o2'.lt k e).1; omega)⟩
  · rw [List.range_succ, List.map_append, range_updV, List.map_cons, List.map_nil, en]
    refine rowB_kept r1 (fun g hg => ?_)
    obtain ⟨_, cur, hc⟩ := row_typ r1 hg
    refine c5.block g (lt_of hc) (fun e => ?_)
    obtain ⟨_, cur', hc'⟩ := row_typ o2' e
    have hc4 : w4.heap[g]? = some (.cells cur' 120 (0, 0)) := (c4.block _ (lt_of hc') (fun e => by obtain ⟨_, cur2, hc2⟩ := row_typ o1' e; exact typ_ne hc' hc2 (by decide) rfl)).trans hc'
    exact typ_ne hc hc4 (by decide) rfl
  · rw [List.range_succ, List.map_append, range_updV, List.map_cons, List.map_nil, en]
    exact s1
  · by_cases e : i = n
    · subst e
      rw [hl] at hl'; injection hl' with hl'; subst hl'
      rw [en, en]
      exact row_up (rowB_kept hB.r7 (fun g hg => by obtain ⟨_, cur, hc⟩ := row_typ hB.r7 hg; exact (kp hc (by decide) (by decide)).trans hc.symm)) sz
    · rw [eo _ _ i (by omega), eo _ _ i (by omega)]
      have hr := h.r1 i l' (by omega) hl'
      exact rowB_kept hr (fun g hg => by obtain ⟨_, cur, hc⟩ := row_typ hr hg; exact (kX hc (by decide) (by decide)).trans hc.symm)
  · by_cases e : i = n
    · subst e
      rw [hl] at hl'; injection hl' with hl'; subst hl'
      rw [en, en]
      exact row_up (rowB_kept hB.r8 (fun g hg => by obtain ⟨_, cur, hc⟩ := row_typ hB.r8 hg; exact (kp hc (by decide) (by decide)).trans hc.symm)) sz
    · rw [eo _ _ i (by omega), eo _ _ i (by omega)]
      have hr := h.r2 i l' (by omega) hl'
      exact rowB_kept hr (fun g hg => by obtain ⟨_, cur, hc⟩ := row_typ hr hg; exact (kX hc (by decide) (by decide)).trans hc.symm)
  · by_cases e : i = n
    · subst e
      rw [hl] at hl'; injection hl' with hl'; subst hl'
      rw [en]
      have hp := hB.pr j q ((List.getElem?_eq_some_iff.1 hq).1) hq hn
      exact ⟨kp hp.1 (by decide) (by decide), by omega⟩
    · rw [eo _ _ i (by omega)]
      have hp := h.pr i l' j q (by omega) hl' hq hn
      exact ⟨kX hp.1 (by decide) (by decide), hp.2⟩
  · by_cases e' : i' = n
    · subst e'
      rw [hl] at h2; injection h2 with h2; subst h2
      rw [en]
      by_cases e : i = i'
      · subst e
        rw [hl] at h1; injection h1 with h1; subst h1
        rw [en]
        exact hB.inj j j' q q' (by omega) ((List.getElem?_eq_some_iff.1 h4).1) h3 h4 h5 h6
      · rw [eo _ _ i (by omega)]
        have a1 := lt_of (h.pr i l1 j q (by omega) h1 h3 h5).1
        have a2 := (hB.pr j' q' ((List.getElem?_eq_some_iff.1 h4).1) h4 h6).2
        omega
    · rw [eo _ _ i' (by omega), eo _ _ i (by omega)]
      exact h.inj i i' l1 l2 j j' q q' (by omega) (by omega) h1 h2 h3 h4 h5 h6 h7
set_option maxRecDepth 100000 in
set_option maxHeartbeats 8000000 in
theorem pr_many {V : World} {B : Nat} {p : Option Addr} {ll : List (List PlP)} {ap : Nat → Option Addr} {ac : Nat → Nat} {lps : Nat → Nat → Option Addr} {lcs : Nat → Nat → Nat} {c : Nat} (hP : ThsAt V B p ll ap ac lps lcs) (hB : B ≤ V.heap.size) (hl : ll.length ≤ 1048576) (hls : ∀ l ∈ ll, l.length ≤ 1048576) :
    Calls Tryz.prog 31 #[.slice p ll.length c] V fun e Y => ∃ tv sv, e = .returned (.tuple #[tv, sv]) ∧ ∃ rv qv pb, PM V Y ll lps lcs ll.length tv sv rv qv pb := by
  obtain ⟨i0, hi0, hz0, hz1, hz2⟩ := info_parts infoPy
  obtain ⟨j0, hj0, hy0, hy1, hy2⟩ := info_parts infoQy
  obtain ⟨k0, hk0, hx0, hx1, hx2⟩ := info_parts infoPsy
  obtain ⟨m0, hm0, hw0, hw1, hw2⟩ := info_parts infoQsy
  have HPT := keepH hP
  have HLS := keepH hls
  have HM0 : Hid (PM V V ll lps lcs 0 (.slice none 0 0) (.slice none 0 0) (fun _ => .nilIface) (fun _ => .nilIface) (fun _ _ => 0)) := PM.start V ll lps lcs _ _ _
  clear hP hls
  go_enter Tryz.func31, Tryz.ntmps31
  go_wp2_with fail
  go_loopw [4, 5, 6] (fun s4 s5 s6 wr => ∃ i : Nat, i ≤ ll.length ∧ s6 = .int .i64 (i : Int) ∧ (∃ p4 c4, s4 = .slice p4 i c4) ∧ (∃ p5 c5, s5 = .slice p5 i c5) ∧ Hid (∃ rv qv pb, PM V wr ll lps lcs i s4 s5 rv qv pb)) (fun _ _ s _ => ll.length - (intOf s).toNat)
  case atStart => exact ⟨0, Nat.zero_le _, rfl, ⟨none, 0, rfl⟩, ⟨none, 0, rfl⟩, _, _, _, HM0.out⟩
  case round =>
    obtain ⟨i, hil, rfl, ⟨p4, c4, rfl⟩, ⟨p5, c5, rfl⟩, HX⟩ := hrel
    by_cases hi : i < ll.length
    · have z1 : (i : Int) < (ll.length : Int) := by omega
      obtain ⟨W, hW⟩ : ∃ W, W = wr := ⟨_, rfl⟩
      subst hW
      obtain ⟨rv, qv, pbs, hM⟩ := HX.out
      have HM := keepH hM
      obtain ⟨l, hll⟩ : ∃ l, ll[i]? = some l := ⟨ll[i], List.getElem?_eq_getElem hi⟩
      have HL := keepH hll
      have hl1 : l.length ≤ 1048576 := HLS.out l (List.mem_of_getElem? hll)
      obtain ⟨⟨gb, go, rfl, hgb, hg0⟩, hPl⟩ := HPT.out i l hll
      have HG : Hid (∀ w', Chg (fun _ => False) W w' → w'.cell? ⟨gb, go + i, none⟩ = some (.slice (ap i) l.length (ac i))) := fun w' cw => by
        obtain ⟨⟨gb', go', e', _, hc⟩, _⟩ := (HPT.out.chg hB (HM.out.chg.trans cw (H := fun _ => False) (fun _ _ x => x) (fun _ _ x => x))) i l HL.out
        injection e' with e'
        injection e' with e1 e2 _
        subst e1 e2
        exact hc
      have HP : Hid (PlansAt W B (ap i) l (lps i) (lcs i)) := hPl.chg hB HM.out.chg
      have hBW : B ≤ W.heap.size := Nat.le_trans hB HM.out.chg.size
      obtain ⟨lp, hlp⟩ : ∃ lp, lp = lps i := ⟨_, rfl⟩
      obtain ⟨lc, hlc⟩ : ∃ lc, lc = lcs i := ⟨_, rfl⟩
      rw [← hlp, ← hlc] at HP
      have HLP := keepH hlp
      have HLC := keepH hlc
      obtain ⟨p, hp⟩ : ∃ p, p = ap i := ⟨_, rfl⟩
      rw [← hp] at HP HG
      have cgW := HG.out W (Chg.refl _ _)
      clear HX hM hll hg0 hPl hgb hlp hlc hp
      go_wp2_with fail
      clear cgW
      go_loopw [7, 8, 9] (fun s7 s8 s9 wr => ∃ k : Nat, k ≤ l.length ∧ s9 = .int .i64 (k : Int) ∧ Hid (∃ pb, PB W wr l lp lc pb k s7 s8)) (fun _ _ s _ => l.length - (intOf s).toNat)
      case atStart => exact ⟨0, Nat.zero_le _, rfl, fun _ => 0, World.ownsRow_nil _ _ _ _, World.ownsRow_nil _ _ _ _, fun j q hj => by omega, fun j j' q q' _ h => by omega, Chg.refl _ _⟩
      case round =>
        obtain ⟨k, hkl, rfl, HY⟩ := hrel
        obtain ⟨pb, hPB⟩ := HY.out
        have HB2 := keepH hPB
        have cg := HG.out wr hPB.chg
        clear hPB HY
        by_cases hlt : k < l.length
        · have q1 : (k : Int) < (l.length : Int) := by omega
          obtain ⟨q, hq⟩ : ∃ q, l[k]? = some q := ⟨l[k], List.getElem?_eq_getElem hlt⟩
          obtain ⟨⟨bk, off, rfl, hbk, c0, c1⟩, _⟩ := (HP.out.chg hBW HB2.out.chg) k q hq
          have HQ := keepH hq
          clear hq hbk
          cases hn : q.none with
          | true =>
            rw [hn] at c0
            have HN := keepH hn
            clear hn
            go_wp2_with (at_builtin; refine wpList_append_own_at _ rfl _ _ 76 rfl W.heap.size 91 i0 .nilIface 1 16 Tryz.underlying76 hi0 hz0 hz1 hz2 rfl (by decide) _ _ _ rfl (HB2.out.r7.alloc _) ⟨_, 0, none⟩ 1 1 [.nilIface] rfl rfl (cells_new _ _ rfl _ _) (by intro u hu; simp at hu; subst hu; rfl) (by unfold maxLen; omega) (by omega) (Nat.le_trans HB2.out.chg.size (by simp)) ?_; intro v7 w7 r1 r2 r3 r4; have HB3 := keepH (HB2.out.skip HQ.out HN.out r1 r2); clear r1 r2 r3 r4)
            go_roundw
            case rel => exact ⟨k + 1, by omega, by first | rfl | go_num, pb, HB3.out⟩
            case measure => simp [intOf]; omega
          | false =>
            rw [hn] at c0
            have HN := keepH hn
            clear hn
            obtain ⟨w4, hw4⟩ : ∃ w4, w4 = wr.alloc (.cells #[.slice (lp k) q.L.length (lc k), .int .i64 0, .slice none 0 0] 122) := ⟨_, rfl⟩
            have HW4 := keepH hw4
            have HR4 : Hid (w4.ownsRow W.heap.size 91 1 u7 k (ifL l pb k) ∧ W.heap.size ≤ w4.heap.size) := by
              have hc : Chg (fun _ => False) wr w4 := by rw [hw4]; exact (Chg.refl _ _).alloc _
              exact ⟨(HB2.out.quiet hc).r7, Nat.le_trans HB2.out.chg.size hc.size⟩
            go_upto_region 14 with fail
            rw [← hw4]
            clear hw4 c0 c1 cg
            go_upto_region 15 with (at_builtin; refine wpList_append_own_at _ rfl _ _ 76 rfl W.heap.size 91 i0 .nilIface 1 16 Tryz.underlying76 hi0 hz0 hz1 hz2 rfl (by decide) _ _ _ rfl (HR4.out.1.alloc _) ⟨_, 0, none⟩ 1 1 [.iface 123 (.pointer (some ⟨wr.heap.size, 0, none⟩))] rfl rfl (cells_new _ _ rfl _ _) (by intro u hu; simp at hu; subst hu; rfl) (by unfold maxLen; omega) (by omega) (Nat.le_trans HR4.out.2 (by simp)) ?_; intro v7 w7 r1 r2 r3 r4; have HR1 := keepH r1; have HR2 := keepH r2; clear r1 r2 r3 r4)
            have hr8 : w7.ownsRow W.heap.size 123 1 u8 (ptL l pb k).length (ptL l pb k) := by
              have hc : Chg (fun _ => False) wr w4 := by rw [HW4.out]; exact (Chg.refl _ _).alloc _
              have h4 := HB2.out.quiet hc
              refine rowB_kept h4.r8 (fun z hz => ?_)
              obtain ⟨_, cur, hcz⟩ := row_typ h4.r8 hz
              exact (((Chg.refl (fun j => u7.ownBlock = some j) w4).alloc _).grown HR2.out (fun j e _ => e)).block z (lt_of hcz) (fun e => by obtain ⟨_, cur', hc'⟩ := row_typ h4.r7 e; exact typ_ne hcz hc' (by decide) rfl)
            have hpl := ptL_len l pb k
            have HR8 := keepH hr8
            have HSZ : Hid (W.heap.size ≤ w7.heap.size) := by have a1 := HR4.out.2; have a2 := HR2.out.size; rw [World.size_alloc] at a2; show _ ≤ _; omega
            clear hr8
            go_wp2_with (at_builtin; refine wpList_append_own_at _ rfl _ _ 120 rfl W.heap.size 123 j0 (.pointer none) 1 8 Tryz.underlying120 hj0 hy0 hy1 hy2 rfl (by decide) _ _ _ rfl (HR8.out.alloc _) ⟨_, 0, none⟩ 1 1 [.pointer (some ⟨wr.heap.size, 0, none⟩)] rfl rfl (cells_new _ _ rfl _ _) (by intro u hu; simp at hu; subst hu; rfl) (by unfold maxLen; omega) (by omega) (Nat.le_trans HSZ.out (by simp)) ?_; intro v8 w8 s1 s2 s3 s4; have HB3 := keepH (HB2.out.add HQ.out HN.out HW4.out HR1.out HR2.out s1 s2); clear s1 s2 s3 s4)
            go_roundw
            case rel => exact ⟨k + 1, by omega, by first | rfl | go_num, _, HB3.out⟩
            case measure => simp [intOf]; omega
        · have q1 : ¬ (k : Int) < (l.length : Int) := by omega
          obtain rfl : k = l.length := by omega
          clear hlt hkl
          obtain ⟨p7, c7, rfl⟩ := slice_row HB2.out.r7
          obtain ⟨p8, c8, rfl⟩ := slice_row HB2.out.r8
          have HO1 : Hid (wr.ownsRow V.heap.size 76 1 (.slice p4 i c4) i ((List.range i).map rv)) := rowB_kept HM.out.o1 (fun g hg => HB2.out.chg.block g (HM.out.o1.lt g hg).2 (fun x => x))
          have HVS : Hid (V.heap.size ≤ wr.heap.size) := Nat.le_trans HM.out.chg.size HB2.out.chg.size
          go_upto_region 17 with (at_builtin; refine wpList_append_own_at _ rfl _ _ 77 rfl V.heap.size 76 k0 (.slice none 0 0) 1 24 Tryz.underlying77 hk0 hx0 hx1 hx2 rfl (by decide) _ _ _ rfl (HO1.out.alloc _) ⟨_, 0, none⟩ 1 1 [.slice p7 l.length c7] rfl rfl (cells_new _ _ rfl _ _) (by intro u hu; simp at hu; subst hu; rfl) (by unfold maxLen; omega) (by omega) (Nat.le_trans HVS.out (by simp)) ?_; intro v4 w4 r1 r2 r3 r4; have HR1 := keepH r1; have HR2 := keepH r2; clear r1 r2 r3 r4)
          have HO2 : Hid (w4.ownsRow V.heap.size 120 1 (.slice p5 i c5) i ((List.range i).map qv)) := by
            have a2 : wr.ownsRow V.heap.size 120 1 (.slice p5 i c5) i ((List.range i).map qv) := rowB_kept HM.out.o2 (fun g hg => HB2.out.chg.block g (HM.out.o2.lt g hg).2 (fun x => x))
            refine rowB_kept a2 (fun g hg => ?_)
            obtain ⟨_, cur, hc⟩ := row_typ a2 hg
            exact (((Chg.refl (fun k => (Value.slice p4 i c4).ownBlock = some k) wr).alloc _).grown HR2.out (fun k e _ => e)).block g (lt_of hc) (fun e => by obtain ⟨_, cur', hc'⟩ := row_typ HO1.out e; exact typ_ne hc hc' (by decide) rfl)
          have HVS4 : Hid (V.heap.size ≤ w4.heap.size) := by have a1 := HVS.out; have a2 := HR2.out.size; rw [World.size_alloc] at a2; show _ ≤ _; omega
          go_wp2_with (at_builtin; refine wpList_append_own_at _ rfl _ _ 31 rfl V.heap.size 120 m0 (.slice none 0 0) 1 24 Tryz.underlying31 hm0 hw0 hw1 hw2 rfl (by decide) _ _ _ rfl (HO2.out.alloc _) ⟨_, 0, none⟩ 1 1 [.slice p8 (ptL l pb l.length).length c8] rfl rfl (cells_new _ _ rfl _ _) (by intro u hu; simp at hu; subst hu; rfl) (by unfold maxLen; omega) (by omega) (Nat.le_trans HVS4.out (by simp)) ?_; intro v5 w5 s1 s2 s3 s4; have HS1 := keepH s1; have HS2 := keepH s2; clear s1 s2 s3 s4)
          have HB6 : Hid (PB W wr l (lps i) (lcs i) pb l.length (.slice p7 l.length c7) (.slice p8 (ptL l pb l.length).length c8)) := by rw [← HLP.out, ← HLC.out]; exact HB2.out
          have HMM := keepH (HM.out.more HL.out HB6.out HR1.out HR2.out HS1.out HS2.out)
          go_roundw
          case rel => exact ⟨i + 1, by omega, by first | rfl | go_num, slice_row HR1.out, slice_row HS1.out, _, _, _, HMM.out⟩
          case measure => simp [intOf]; omega
    · have z1 : ¬ (i : Int) < (ll.length : Int) := by omega
      obtain rfl : i = ll.length := by omega
      go_wp2_with fail
      go_ret2
      exact ⟨_, _, ⟨by simp, HX.out⟩⟩
end Go.Proofs.YtnhiodmigmmfgaaGreat
/- The document's runner (shutterref04): what lies in memory; a new one. -/
namespace Go.Proofs.YtnhiodmigmmfgaaGreat
open Go.RowKit Go.Shelf
set_option linter.unusedVariables false

def intR (f : Nat → Nat) (T : Nat) : Array Value := ((List.range T).map (fun i => Value.int .i64 (f i : Int))).toArray
def valR (f : Nat → Value) (T : Nat) : Array Value := ((List.range T).map f).toArray
/-- The document's runner: its memory, each thread's call and how many steps that took; what it wrote down is its own. -/
structure D4At (X : World) (B : Nat) (tg : Nat → Nat) (r nm T st gc ga gg : Nat) (p : Option Addr) (c8 : Nat) (ev wv : Value) (es : List Ev) (ws : List Int) (gv : Nat → Value) (gl : Nat → List Nat) (R : Nat → Prop) (m : Mu) (t : List Acc) (call at_ : Nat → Nat) : Prop where
  blk : X.heap[r]? = some (.cells #[.pointer (some ⟨nm, 0, none⟩), .slice p T c8, .slice (some ⟨gc, 0, none⟩) T T, .slice (some ⟨ga, 0, none⟩) T T, .int .i64 (st : Int), ev, wv, .slice (some ⟨gg, 0, none⟩) T T] 104 (0, 0))
  cb : X.heap[gc]? = some (.cells (intR call T) 3 (0, 0))
  ab : X.heap[ga]? = some (.cells (intR at_ T) 3 (0, 0))
  gb : X.heap[gg]? = some (.cells (valR gv T) 110 (0, 0))
  er : X.ownsRow 0 100 4 ev es.length (evRow es)
  wr : X.ownsRow 0 3 1 wv ws.length (ws.map i64V)
  gr : ∀ i, i < T → X.ownsRow 0 75 1 (gv i) (gl i).length ((gl i).map u64V)
  rm : RM X R nm 200 m.next m.cs t
  tr : tg r = 1
  tc : tg gc = 2
  ta : tg ga = 3
  tG : tg gg = 4
  te : ∀ k, ev.ownBlock = some k → tg k = 5
  tw : ∀ k, wv.ownBlock = some k → tg k = 6
  tR : ∀ k, R k → tg k = 7
  tg_ : ∀ i k, i < T → (gv i).ownBlock = some k → tg k = 8 + i
  lo : ∀ k, tg k ≠ 0 → B ≤ k ∧ k < X.heap.size
  bd : es.length ≤ 2 * st ∧ ws.length ≤ t.length ∧ (∀ i, i < T → (gl i).length ≤ st) ∧ t.length ≤ st + 1 ∧ m.next ≤ 200 ∧ T ≤ 64
/-- All but what bears the tag x stays. -/
theorem D4At.keep {X Y : World} {B : Nat} {tg : Nat → Nat} {r nm T st gc ga gg : Nat} {p : Option Addr} {c8 : Nat} {ev wv : Value} {es : List Ev} {ws : List Int} {gv : Nat → Value} {gl : Nat → List Nat} {R : Nat → Prop} {m : Mu} {t : List Acc} {call at_ : Nat → Nat} (h : D4At X B tg r nm T st gc ga gg p c8 ev wv es ws gv gl R m t call at_) (hs : X.heap.size ≤ Y.heap.size) (hk : ∀ k, tg k ≠ 0 → Y.heap[k]? = X.heap[k]?) : D4At Y B tg r nm T st gc ga gg p c8 ev wv es ws gv gl R m t call at_ := by
  obtain ⟨l, hl1, hl2⟩ := h.rm
  obtain ⟨nc, av, os, hl1⟩ := hl1
  exact ⟨(hk r (by rw [h.tr]; decide)).trans h.blk, (hk gc (by rw [h.tc]; decide)).trans h.cb, (hk ga (by rw [h.ta]; decide)).trans h.ab, (hk gg (by rw [h.tG]; decide)).trans h.gb, row_kept h.er (fun k e => hk k (by rw [h.te k e]; decide)), row_kept h.wr (fun k e => hk k (by rw [h.tw k e]; decide)), fun i hi => row_kept (h.gr i hi) (fun k e => hk k (by rw [h.tg_ i k hi e]; omega)), ⟨l, ⟨nc, av, os, hl1.kept hs (fun k e => hk k (by rw [h.tR k e]; decide))⟩, hl2⟩, h.tr, h.tc, h.ta, h.tG, h.te, h.tw, h.tR, h.tg_, fun k e => ⟨(h.lo k e).1, by have := (h.lo k e).2; omega⟩, h.bd⟩
def D4 (X : World) (B r nm T st : Nat) (p : Option Addr) (c8 : Nat) (call at_ : Nat → Nat) (K : Nat → Prop) : Prop := ∃ tg gc ga gg ev wv es ws gv gl R m t, D4At X B tg r nm T st gc ga gg p c8 ev wv es ws gv gl R m t call at_ ∧ ∀ k, tg k ≠ 0 → K k
theorem D4.keep {X Y : World} {B r nm T st : Nat} {p : Option Addr} {c8 : Nat} {call at_ : Nat → Nat} {K : Nat → Prop} (h : D4 X B r nm T st p c8 call at_ K) (hs : X.heap.size ≤ Y.heap.size) (hk : ∀ k, K k → Y.heap[k]? = X.heap[k]?) : D4 Y B r nm T st p c8 call at_ K := by
  obtain ⟨tg, gc, ga, gg, ev, wv, es, ws, gv, gl, R, m, t, h, hK⟩ := h
  exact ⟨tg, gc, ga, gg, ev, wv, es, ws, gv, gl, R, m, t, h.keep hs (fun k e => hk k (hK k e)), hK⟩
structure R4S where
  st : Nat
  call : Nat → Nat
  at_ : Nat → Nat
  es : List Ev
  ws : List Int
  gl : Nat → List Nat
  m : Mu
  t : List Acc
def D4x (X : World) (B r nm T : Nat) (p : Option Addr) (c8 : Nat) (s : R4S) (K : Nat → Prop) : Prop := ∃ tg gc ga gg ev wv gv R, D4At X B tg r nm T s.st gc ga gg p c8 ev wv s.es s.ws gv s.gl R s.m s.t s.call s.at_ ∧ ∀ k, tg k ≠ 0 → K k
theorem D4x.keep {X Y : World} {B r nm T : Nat} {p : Option Addr} {c8 : Nat} {s : R4S} {K : Nat → Prop} (h : D4x X B r nm T p c8 s K) (hs : X.heap.size ≤ Y.heap.size) (hk : ∀ k, K k → Y.heap[k]? = X.heap[k]?) : D4x Y B r nm T p c8 s K := by
  obtain ⟨tg, gc, ga, gg, ev, wv, gv, R, h, hK⟩ := h
  exact ⟨tg, gc, ga, gg, ev, wv, gv, R, h.keep hs (fun k e => hk k (hK k e)), hK⟩
theorem D4.ex {X : World} {B r nm T st : Nat} {p : Option Addr} {c8 : Nat} {call at_ : Nat → Nat} {K : Nat → Prop} (h : D4 X B r nm T st p c8 call at_ K) : ∃ es ws gl m t, D4x X B r nm T p c8 ⟨st, call, at_, es, ws, gl, m, t⟩ K := by
  obtain ⟨tg, gc, ga, gg, ev, wv, es, ws, gv, gl, R, m, t, h, hK⟩ := h
  exact ⟨es, ws, gl, m, t, tg, gc, ga, gg, ev, wv, gv, R, h, hK⟩
theorem D4x.hid {X : World} {B r nm T : Nat} {p : Option Addr} {c8 : Nat} {s : R4S} {K : Nat → Prop} (h : D4x X B r nm T p c8 s K) : D4 X B r nm T s.st p c8 s.call s.at_ K := by
  obtain ⟨tg, gc, ga, gg, ev, wv, gv, R, h, hK⟩ := h
  exact ⟨tg, gc, ga, gg, ev, wv, s.es, s.ws, gv, s.gl, R, s.m, s.t, h, hK⟩
theorem intR_get {f : Nat → Nat} {T i : Nat} (h : i < T) : (intR f T)[i]? = some (.int .i64 (f i : Int)) := by simp [intR, h]
set_option maxRecDepth 100000 in
/-- Has a thread something to do? -/
theorem d4_left {X : World} {B r nm T st : Nat} {p : Option Addr} {c8 : Nat} {call at_ : Nat → Nat} {K : Nat → Prop} (h : D4 X B r nm T st p c8 call at_ K) {ll : List (List PlP)} {ap : Nat → Option Addr} {ac : Nat → Nat} {lp : Nat → Nat → Option Addr} {lc : Nat → Nat → Nat} (hP : ThsAt X B p ll ap ac lp lc) (hT : ll.length = T) (cl : Nat → Nat) (hcl : ∀ i l, ll[i]? = some l → l.length = cl i) (th : Int) :
    Calls Tryz.prog 37 #[.pointer (some ⟨r, 0, none⟩), .int .i64 th] X fun e Y => e = .returned (.bool (decide (0 ≤ th ∧ th < (T : Int) ∧ call th.toNat < cl th.toNat))) ∧ ∃ q, Y = X.drewN q := by
  obtain ⟨tg, gc, ga, gg, ev, wv, es, ws, gv, gl, R, m, t, h, hK⟩ := h
  have c1 : X.cell? ⟨r, 1, none⟩ = some (.slice p T c8) := cell_of h.blk 1
  have c2 : X.cell? ⟨r, 2, none⟩ = some (.slice (some ⟨gc, 0, none⟩) T T) := cell_of h.blk 2
  have HP := keepH hP
  have HCB := keepH h.cb
  have HT := keepH hT
  have HCL := keepH hcl
  clear hP hT hcl
  by_cases h0 : 0 ≤ th
  · by_cases h1 : th < (T : Int)
    · obtain ⟨i, rfl⟩ : ∃ i : Nat, th = (i : Int) := ⟨th.toNat, by omega⟩
      have hi : i < T := by omega
      obtain ⟨l, hl⟩ : ∃ l, ll[i]? = some l := ⟨ll[i]'(by have := HT.out; omega), List.getElem?_eq_getElem _⟩
      obtain ⟨⟨bk, off, rfl, _, d0⟩, _⟩ := HP.out i l hl
      have d1 : X.cell? ⟨gc, i, none⟩ = some (.int .i64 (call i : Int)) := by rw [cell_of HCB.out i]; exact intR_get hi
      rw [HCL.out i l hl] at d0
      clear h hK hl
      by_cases h2 : call i < cl i
      · have t2 : (call i : Int) < (cl i : Int) := by omega
        have e2 : decide ((0 : Int) ≤ (i : Int) ∧ (i : Int) < (T : Int) ∧ call (i : Int).toNat < cl (i : Int).toNat) = true := decide_eq_true ⟨h0, h1, by simpa using h2⟩
        rw [e2]
        clear e2
        have q1 : decide (i < T) = true := decide_eq_true hi
        have q2 : decide (call i < cl i) = true := decide_eq_true h2
        go_enter Tryz.func37, Tryz.ntmps37
        go_upto_region 1 with fail
        go_quiet (fail)
        (try go_wp2_with fail)
        go_ret
        exact ⟨by simp, nq, rfl⟩
      · have t2 : ¬ (call i : Int) < (cl i : Int) := by omega
        have e2 : decide ((0 : Int) ≤ (i : Int) ∧ (i : Int) < (T : Int) ∧ call (i : Int).toNat < cl (i : Int).toNat) = false := decide_eq_false (fun z => h2 (by simpa using z.2.2))
        rw [e2]
        clear e2
        have q1 : decide (i < T) = true := decide_eq_true hi
        have q2 : decide (call i < cl i) = false := decide_eq_false h2
        go_enter Tryz.func37, Tryz.ntmps37
        go_upto_region 1 with fail
        go_quiet (fail)
        (try go_wp2_with fail)
        go_ret
        exact ⟨by simp, nq, rfl⟩
    · have e2 : decide ((0 : Int) ≤ th ∧ th < (T : Int) ∧ call th.toNat < cl th.toNat) = false := decide_eq_false (fun z => h1 z.2.1)
      rw [e2]
      clear e2 h hK
      have q1 : decide (0 ≤ th) = true := decide_eq_true h0
      have q2 : decide (th < (T : Int)) = false := decide_eq_false h1
      go_enter Tryz.func37, Tryz.ntmps37
      go_upto_region 1 with fail
      go_quiet (fail)
      (try go_wp2_with fail)
      go_ret
      exact ⟨by simp, nq, rfl⟩
  · have e2 : decide ((0 : Int) ≤ th ∧ th < (T : Int) ∧ call th.toNat < cl th.toNat) = false := decide_eq_false (fun z => h0 z.1)
    rw [e2]
    clear e2 h hK
    have q1 : decide (0 ≤ th) = false := decide_eq_false h0
    go_enter Tryz.func37, Tryz.ntmps37
    go_upto_region 1 with fail
    go_quiet (fail)
    (try go_wp2_with fail)
    go_ret
    exact ⟨by simp, nq, rfl⟩
end Go.Proofs.YtnhiodmigmmfgaaGreat
/- The document's runner: a new one. -/
namespace Go.Proofs.YtnhiodmigmmfgaaGreat
open Go.RowKit Go.Shelf
set_option linter.unusedVariables false

section
variable {X Y : World} {B : Nat} {tg : Nat → Nat} {r nm T st gc ga gg : Nat} {p : Option Addr} {c8 : Nat} {ev wv : Value} {es : List Ev} {ws : List Int} {gv : Nat → Value} {gl : Nat → List Nat} {R : Nat → Prop} {m : Mu} {t : List Acc} {call at_ : Nat → Nat}
/-- One number more is written down. -/
theorem D4At.noted (h : D4At X B tg r nm T st gc ga gg p c8 ev wv es ws gv gl R m t call at_) {wv' : Value} {x : Int} {o : Obj} (r1 : Y.ownsRow 0 3 1 wv' (ws.length + 1) (ws.map i64V ++ [.int .i64 x])) (r2 : (X.alloc o).grownBy Y wv.ownBlock) (r4 : wv'.ownBlock = wv.ownBlock ∨ wv'.ownBlock = some (X.alloc o).heap.size) (hB : B ≤ X.heap.size) (hl : ws.length + 1 ≤ t.length) :
    D4At (Y.setCell ⟨r, 6, none⟩ wv') B (fun k => if k < X.heap.size then tg k else if wv'.ownBlock = some k then 6 else 0) r nm T st gc ga gg p c8 ev wv' es (ws ++ [x]) gv gl R m t call at_ := by
  have c : Chg (fun k => wv.ownBlock = some k) X Y := ((Chg.refl (fun k => wv.ownBlock = some k) X).alloc o).grown r2 (fun k e _ => e)
  have sz := c.size
  have lt : ∀ k, tg k ≠ 0 → k < X.heap.size := fun k e => (h.lo k e).2
  have ky : ∀ k, tg k ≠ 0 → tg k ≠ 6 → Y.heap[k]? = X.heap[k]? := fun k e e6 => c.block k (lt k e) (fun q => e6 (h.tw k q))
  have kz : ∀ k, tg k ≠ 0 → tg k ≠ 6 → tg k ≠ 1 → (Y.setCell ⟨r, 6, none⟩ wv').heap[k]? = X.heap[k]? := fun k e e6 e1 => (Below.heap_setCell _ _ _ k (fun q => e1 (by rw [show k = r from q]; exact h.tr))).trans (ky k e e6)
  have wlt : ∀ k, wv'.ownBlock = some k → k < Y.heap.size := fun k e => row_lt r1 k e
  have wr_ : ∀ k, wv'.ownBlock = some k → k < X.heap.size → tg k = 6 := fun k e hk => by
    rcases r4 with q | q
    · exact h.tw k (q ▸ e)
    · rw [q] at e; simp at e; omega
  have old : ∀ k, tg k ≠ 0 → (fun k => if k < X.heap.size then tg k else if wv'.ownBlock = some k then 6 else 0) k = tg k := fun k e => by simp only [if_pos (lt k e)]
  obtain ⟨l, ⟨nc, av, os, hl1⟩, hl2⟩ := h.rm
  have b := h.bd
  have hszz : (Y.setCell ⟨r, 6, none⟩ wv').heap.size = Y.heap.size := by simp [World.setCell]
  refine ⟨?_, (kz gc (by rw [h.tc]; decide) (by rw [h.tc]; decide) (by rw [h.tc]; decide)).trans h.cb, (kz ga (by rw [h.ta]; decide) (by rw [h.ta]; decide) (by rw [h.ta]; decide)).trans h.ab, (kz gg (by rw [h.tG]; decide) (by rw [h.tG]; decide) (by rw [h.tG]; decide)).trans h.gb, row_kept h.er (fun k e => kz k (by rw [h.te k e]; decide) (by rw [h.te k e]; decide) (by rw [h.te k e]; decide)), ?_, fun i hi => row_kept (h.gr i hi) (fun k e => kz k (by rw [h.tg_ i k hi e]; omega) (by rw [h.tg_ i k hi e]; omega) (by rw [h.tg_ i k hi e]; omega)), ⟨l, ⟨nc, av, os, hl1.kept (by rw [hszz]; exact sz) (fun k e => kz k (by rw [h.tR k e]; decide) (by rw [h.tR k e]; decide) (by rw [h.tR k e]; decide))⟩, hl2⟩, ?_, ?_, ?_, ?_, fun k e => ?_, fun k e => ?_, fun k e => ?_, fun i k hi e => ?_, fun k e => ?_, ⟨b.1, by simp; omega, b.2.2⟩⟩
  · have hb : Y.heap[r]? = _ := (ky r (by rw [h.tr]; decide) (by rw [h.tr]; decide)).trans h.blk
    rw [set_of hb 6 wv']
    rfl
  · have e1 : Y.ownsRow 0 3 1 wv' (ws ++ [x]).length ((ws ++ [x]).map i64V) := by simpa [i64V] using r1
    refine row_kept e1 (fun k e => Below.heap_setCell _ _ _ k (fun q => ?_))
    have q2 : k = r := q
    have : k < X.heap.size := by rw [q2]; exact lt r (by rw [h.tr]; decide)
    have := wr_ k e this
    rw [q2, h.tr] at this
    omega
  · exact (old r (by rw [h.tr]; decide)).trans (h.tr)
  · exact (old gc (by rw [h.tc]; decide)).trans (h.tc)
  · exact (old ga (by rw [h.ta]; decide)).trans (h.ta)
  · exact (old gg (by rw [h.tG]; decide)).trans (h.tG)
  · exact (old k (by rw [h.te k e]; decide)).trans (h.te k e)
  · by_cases hk : k < X.heap.size
    · simp only [if_pos hk]; exact wr_ k e hk
    · simp only [if_neg hk, if_pos e]
  · exact (old k (by rw [h.tR k e]; decide)).trans (h.tR k e)
  · exact (old k (by rw [h.tg_ i k hi e]; omega)).trans (h.tg_ i k hi e)
  · rw [hszz]
    by_cases hk : k < X.heap.size
    · simp only [if_pos hk] at e
      exact ⟨(h.lo k e).1, by omega⟩
    · simp only [if_neg hk] at e
      split at e
      · rename_i q; exact ⟨by omega, wlt k q⟩
      · exact absurd rfl e
end
end Go.Proofs.YtnhiodmigmmfgaaGreat
/- The document's runner: its numbers are set, its events grow. -/
namespace Go.Proofs.YtnhiodmigmmfgaaGreat
open Go.RowKit Go.Shelf
set_option linter.unusedVariables false

section
variable {X Y : World} {B : Nat} {tg : Nat → Nat} {r nm T st gc ga gg : Nat} {p : Option Addr} {c8 : Nat} {ev wv : Value} {es : List Ev} {ws : List Int} {gv : Nat → Value} {gl : Nat → List Nat} {R : Nat → Prop} {m : Mu} {t : List Acc} {call at_ : Nat → Nat}
theorem D4At.put (h : D4At X B tg r nm T st gc ga gg p c8 ev wv es ws gv gl R m t call at_) (hs : X.heap.size ≤ Y.heap.size) {st' : Nat} {call' at' : Nat → Nat} (hb : Y.heap[r]? = some (.cells #[.pointer (some ⟨nm, 0, none⟩), .slice p T c8, .slice (some ⟨gc, 0, none⟩) T T, .slice (some ⟨ga, 0, none⟩) T T, .int .i64 (st' : Int), ev, wv, .slice (some ⟨gg, 0, none⟩) T T] 104 (0, 0))) (hc : Y.heap[gc]? = some (.cells (intR call' T) 3 (0, 0))) (ha : Y.heap[ga]? = some (.cells (intR at' T) 3 (0, 0))) (hk : ∀ k, tg k ≠ 0 → tg k ≠ 1 → tg k ≠ 2 → tg k ≠ 3 → Y.heap[k]? = X.heap[k]?) (hst : st ≤ st') : D4At Y B tg r nm T st' gc ga gg p c8 ev wv es ws gv gl R m t call' at' := by
  obtain ⟨l, ⟨nc, av, os, hl1⟩, hl2⟩ := h.rm
  obtain ⟨b1, b2, b3, b4, b5, b6⟩ := h.bd
  have k4 : ∀ k x, tg k = x → 4 ≤ x → Y.heap[k]? = X.heap[k]? := fun k x e hx => hk k (by omega) (by omega) (by omega) (by omega)
  exact ⟨hb, hc, ha, (k4 gg 4 h.tG (by omega)).trans h.gb, row_kept h.er (fun k e => k4 k 5 (h.te k e) (by omega)), row_kept h.wr (fun k e => k4 k 6 (h.tw k e) (by omega)), fun i hi => row_kept (h.gr i hi) (fun k e => k4 k _ (h.tg_ i k hi e) (by omega)), ⟨l, ⟨nc, av, os, hl1.kept hs (fun k e => k4 k 7 (h.tR k e) (by omega))⟩, hl2⟩, h.tr, h.tc, h.ta, h.tG, h.te, h.tw, h.tR, h.tg_, fun k e => ⟨(h.lo k e).1, by have := (h.lo k e).2; omega⟩, ⟨by omega, b2, fun i hi => by have := b3 i hi; omega, by omega, b5, b6⟩⟩
theorem intR_set (f : Nat → Nat) (T i v : Nat) : (intR f T).setIfInBounds i (.int .i64 (v : Int)) = intR (fun j => if j = i then v else f j) T := by
  apply Array.ext'
  apply List.ext_getElem?
  intro j
  simp only [intR, Array.toList_setIfInBounds, List.getElem?_set, List.getElem?_map]
  by_cases hj : j < T
  · rw [List.getElem?_range hj]
    by_cases e : i = j
    · subst e; simp [hj]
    · have e' : ¬ j = i := fun z => e z.symm
      rw [if_neg e]
      simp [e']
  · have hr : (List.range T)[j]? = none := List.getElem?_eq_none (by simp; omega)
    rw [hr]
    by_cases e : i = j
    · subst e; simp [hj]
    · rw [if_neg e]; rfl
/-- One pick more. -/
theorem D4At.setSt (h : D4At X B tg r nm T st gc ga gg p c8 ev wv es ws gv gl R m t call at_) (st' : Nat) (hst : st ≤ st') : D4At (X.setCell ⟨r, 4, none⟩ (.int .i64 (st' : Int))) B tg r nm T st' gc ga gg p c8 ev wv es ws gv gl R m t call at_ :=
  h.put (by simp [World.setCell]) (by rw [set_of h.blk 4]; rfl) ((Below.heap_setCell _ _ _ gc (fun e => by have e2 : gc = r := e; have := h.tc; rw [e2, h.tr] at this; omega)).trans h.cb) ((Below.heap_setCell _ _ _ ga (fun e => by have e2 : ga = r := e; have := h.ta; rw [e2, h.tr] at this; omega)).trans h.ab) (fun k _ e1 _ _ => Below.heap_setCell _ _ _ k (fun e => e1 (by rw [show k = r from e]; exact h.tr))) hst
/-- How many steps a thread's call took. -/
theorem D4At.setAt (h : D4At X B tg r nm T st gc ga gg p c8 ev wv es ws gv gl R m t call at_) (i v : Nat) : D4At (X.setCell ⟨ga, i, none⟩ (.int .i64 (v : Int))) B tg r nm T st gc ga gg p c8 ev wv es ws gv gl R m t call (fun j => if j = i then v else at_ j) :=
  h.put (by simp [World.setCell]) ((Below.heap_setCell _ _ _ r (fun e => by have e2 : r = ga := e; have := h.ta; rw [← e2, h.tr] at this; omega)).trans h.blk) ((Below.heap_setCell _ _ _ gc (fun e => by have e2 : gc = ga := e; have := h.tc; rw [e2, h.ta] at this; omega)).trans h.cb) (by rw [set_of h.ab i, intR_set]) (fun k _ _ _ e3 => Below.heap_setCell _ _ _ k (fun e => e3 (by rw [show k = ga from e]; exact h.ta))) (Nat.le_refl _)
/-- Which call is a thread's next. -/
theorem D4At.setCall (h : D4At X B tg r nm T st gc ga gg p c8 ev wv es ws gv gl R m t call at_) (i v : Nat) : D4At (X.setCell ⟨gc, i, none⟩ (.int .i64 (v : Int))) B tg r nm T st gc ga gg p c8 ev wv es ws gv gl R m t (fun j => if j = i then v else call j) at_ :=
  h.put (by simp [World.setCell]) ((Below.heap_setCell _ _ _ r (fun e => by have e2 : r = gc := e; have := h.tc; rw [← e2, h.tr] at this; omega)).trans h.blk) (by rw [set_of h.cb i, intR_set]) ((Below.heap_setCell _ _ _ ga (fun e => by have e2 : ga = gc := e; have := h.ta; rw [e2, h.tc] at this; omega)).trans h.ab) (fun k _ _ e2 _ => Below.heap_setCell _ _ _ k (fun e => e2 (by rw [show k = gc from e]; exact h.tc))) (Nat.le_refl _)
/-- One event more. -/
theorem D4At.event (h : D4At X B tg r nm T st gc ga gg p c8 ev wv es ws gv gl R m t call at_) {ev' : Value} {x : Ev} {o : Obj} (r1 : Y.ownsRow 0 100 4 ev' (es.length + 1) (evRow es ++ x.cells)) (r2 : (X.alloc o).grownBy Y ev.ownBlock) (r4 : ev'.ownBlock = ev.ownBlock ∨ ev'.ownBlock = some (X.alloc o).heap.size) (hB : B ≤ X.heap.size) (hl : es.length + 1 ≤ 2 * st) :
    D4At (Y.setCell ⟨r, 5, none⟩ ev') B (fun k => if k < X.heap.size then tg k else if ev'.ownBlock = some k then 5 else 0) r nm T st gc ga gg p c8 ev' wv (es ++ [x]) ws gv gl R m t call at_ := by
  have c : Chg (fun k => ev.ownBlock = some k) X Y := ((Chg.refl (fun k => ev.ownBlock = some k) X).alloc o).grown r2 (fun k e _ => e)
  have sz := c.size
  have lt : ∀ k, tg k ≠ 0 → k < X.heap.size := fun k e => (h.lo k e).2
  have ky : ∀ k, tg k ≠ 0 → tg k ≠ 5 → Y.heap[k]? = X.heap[k]? := fun k e e5 => c.block k (lt k e) (fun q => e5 (h.te k q))
  have kz : ∀ k, tg k ≠ 0 → tg k ≠ 5 → tg k ≠ 1 → (Y.setCell ⟨r, 5, none⟩ ev').heap[k]? = X.heap[k]? := fun k e e5 e1 => (Below.heap_setCell _ _ _ k (fun q => e1 (by rw [show k = r from q]; exact h.tr))).trans (ky k e e5)
  have wlt : ∀ k, ev'.ownBlock = some k → k < Y.heap.size := fun k e => row_lt r1 k e
  have wr_ : ∀ k, ev'.ownBlock = some k → k < X.heap.size → tg k = 5 := fun k e hk => by
    rcases r4 with q | q
    · exact h.te k (q ▸ e)
    · rw [q] at e; simp at e; omega
  have old : ∀ k, tg k ≠ 0 → (fun k => if k < X.heap.size then tg k else if ev'.ownBlock = some k then 5 else 0) k = tg k := fun k e => by simp only [if_pos (lt k e)]
  obtain ⟨l, ⟨nc, av, os, hl1⟩, hl2⟩ := h.rm
  have b := h.bd
  have hszz : (Y.setCell ⟨r, 5, none⟩ ev').heap.size = Y.heap.size := by simp [World.setCell]
  refine ⟨?_, (kz gc (by rw [h.tc]; decide) (by rw [h.tc]; decide) (by rw [h.tc]; decide)).trans h.cb, (kz ga (by rw [h.ta]; decide) (by rw [h.ta]; decide) (by rw [h.ta]; decide)).trans h.ab, (kz gg (by rw [h.tG]; decide) (by rw [h.tG]; decide) (by rw [h.tG]; decide)).trans h.gb, ?_, row_kept h.wr (fun k e => kz k (by rw [h.tw k e]; decide) (by rw [h.tw k e]; decide) (by rw [h.tw k e]; decide)), fun i hi => row_kept (h.gr i hi) (fun k e => kz k (by rw [h.tg_ i k hi e]; omega) (by rw [h.tg_ i k hi e]; omega) (by rw [h.tg_ i k hi e]; omega)), ⟨l, ⟨nc, av, os, hl1.kept (by rw [hszz]; exact sz) (fun k e => kz k (by rw [h.tR k e]; decide) (by rw [h.tR k e]; decide) (by rw [h.tR k e]; decide))⟩, hl2⟩, ?_, ?_, ?_, ?_, fun k e => ?_, fun k e => ?_, fun k e => ?_, fun i k hi e => ?_, fun k e => ?_, ⟨by simp; omega, b.2⟩⟩
  · have hb : Y.heap[r]? = _ := (ky r (by rw [h.tr]; decide) (by rw [h.tr]; decide)).trans h.blk
    rw [set_of hb 5 ev']
    rfl
  · have e1 : Y.ownsRow 0 100 4 ev' (es ++ [x]).length (evRow (es ++ [x])) := by
      have e0 : evRow (es ++ [x]) = evRow es ++ x.cells := by simp [evRow]
      rw [e0, List.length_append]
      exact r1
    refine row_kept e1 (fun k e => Below.heap_setCell _ _ _ k (fun q => ?_))
    have q2 : k = r := q
    have : k < X.heap.size := by rw [q2]; exact lt r (by rw [h.tr]; decide)
    have := wr_ k e this
    rw [q2, h.tr] at this
    omega
  · exact (old r (by rw [h.tr]; decide)).trans (h.tr)
  · exact (old gc (by rw [h.tc]; decide)).trans (h.tc)
  · exact (old ga (by rw [h.ta]; decide)).trans (h.ta)
  · exact (old gg (by rw [h.tG]; decide)).trans (h.tG)
  · by_cases hk : k < X.heap.size
    · simp only [if_pos hk]; exact wr_ k e hk
    · simp only [if_neg hk, if_pos e]
  · exact (old k (by rw [h.tw k e]; decide)).trans (h.tw k e)
  · exact (old k (by rw [h.tR k e]; decide)).trans (h.tR k e)
  · exact (old k (by rw [h.tg_ i k hi e]; omega)).trans (h.tg_ i k hi e)
  · rw [hszz]
    by_cases hk : k < X.heap.size
    · simp only [if_pos hk] at e
      exact ⟨(h.lo k e).1, by omega⟩
    · simp only [if_neg hk] at e
      split at e
      · rename_i q; exact ⟨by omega, wlt k q⟩
      · exact absurd rfl e
end
end Go.Proofs.YtnhiodmigmmfgaaGreat
