/- Accesses made once more, by kind. (mkRpo.py) -/
import Derived.Test.YtjodechhnobkhaaGreatDoorRpn
import Derived.Test.YtjodechhnobkhaaGreatDoorOps
namespace Go.Proofs.YtjodechhnobkhaaGreatDoor
open Go.RowKit Go.Shelf
set_option linter.unusedVariables false

structure Ms where
  next : Nat
  cs : List Nat
/-- does the memory tell what the access told? -/
def msTell (most : Nat) (s : Ms) (x : Ax) : Bool :=
  if x.kind = 1 then decide (cellN s.cs x.addr = x.got) else if x.kind = 2 then true else if x.kind = 3 then decide (casOk most s.cs x.addr x.a = x.ok)
  else if x.kind = 4 then decide (cellN s.cs x.addr = x.got) else decide (alAt most s.next x.vals.length = x.addr)
def msStep (most : Nat) (s : Ms) (x : Ax) : Ms :=
  if x.kind = 1 then s else if x.kind = 2 then ⟨s.next, stN most s.cs x.addr x.a⟩ else if x.kind = 3 then ⟨s.next, casN most s.cs x.addr x.a x.b⟩
  else if x.kind = 4 then ⟨s.next, stN most s.cs x.addr (addN (cellN s.cs x.addr) x.a)⟩ else ⟨alNext most s.next x.vals.length, alN most s.next s.cs x.vals⟩
/-- a memory that is gone through again, and its view -/
structure ME (W : World) (v b most : Nat) (s : Ms) (k : Nat) (F : Nat → Prop) (wr : World) : Prop where
  bel : Below W.heap.size W wr
  vb : ∃ made l, made ≤ k ∧ l.length ≤ k ∧ IsView wr v b 0 made ∧ Bank wr F b most s.next s.cs l
  nv : ¬ F v
  new : ∀ j, F j → W.heap.size ≤ j
  v0 : W.heap.size ≤ v
theorem ME.lt {W : World} {v b most : Nat} {s : Ms} {k : Nat} {F : Nat → Prop} {wr : World} (h : ME W v b most s k F wr) : (∀ j, F j → j < wr.heap.size) ∧ v < wr.heap.size := by
  obtain ⟨made, l, _, _, hv, cv, av, hb⟩ := h.vb
  exact ⟨hb.lt, hv.lt⟩
theorem ME.on {W : World} {v b most : Nat} {s : Ms} {k : Nat} {F : Nat → Prop} {wr w' : World} (h : ME W v b most s k F wr) (hb : Below wr.heap.size wr w') : ME W v b most s k F w' := by
  obtain ⟨made, l, h1, h2, hv, hB⟩ := h.vb
  exact ⟨below_chain h.bel hb, ⟨made, l, h1, h2, hv.chg (belowC hb) (fun x => x), hB.chg (belowC hb) (fun _ _ x => x)⟩, h.nv, h.new, h.v0⟩
theorem ME.goes {W : World} {v b most : Nat} {s s' : Ms} {k : Nat} {F F' : Nat → Prop} {wr w' : World} {made : Nat} {l' : List Acc} (h : ME W v b most s k F wr) (hg : GoesV wr w' F F' v) (hm : made ≤ k + 1) (hl : l'.length ≤ k + 1) (hv : IsView w' v b 0 made) (hB : Bank w' F' b most s'.next s'.cs l') : ME W v b most s' (k + 1) F' w' := by
  have hz := h.bel.size
  refine ⟨h.bel.trans ⟨hg.chg.os, hg.chg.tape, hg.chg.output, hg.chg.size, fun i hi => hg.chg.block i (by omega) (fun e => ?_)⟩, ⟨made, l', hm, hl, hv, hB⟩, fun e => ?_, fun j hj => ?_, h.v0⟩
  · rcases e with e | e
    · have := h.new i e; omega
    · have := h.v0; omega
  · rcases hg.new v e with q | q
    · exact h.nv q
    · have := h.lt.2; omega
  · rcases hg.new j hj with q | q
    · exact h.new j q
    · omega
/-- what is left behind an access -/
def MEx (W : World) (v b most : Nat) (s : Ms) (k : Nat) (F : Nat → Prop) (w w' : World) : Prop := ∃ F', ME W v b most s k F' w' ∧ Chg (fun j => F j ∨ j = v) w w' ∧ ∀ j, F' j → F j ∨ w.heap.size ≤ j
theorem me_load {W : World} {v b most : Nat} {s : Ms} {k : Nat} {F : Nat → Prop} {w : World} (h : ME W v b most s k F w) (hk : k ≤ 1000000000) (addr : Nat) (ha : isU addr) :
    Calls Tryz.prog 52 #[.pointer (some ⟨v, 0, none⟩), .int .u64 (addr : Int)] w fun e w' => e = .returned (.int .u64 (cellN s.cs addr : Int)) ∧ MEx W v b most s (k + 1) F w w' := by
  obtain ⟨made, l, h1, h2, hv, hB⟩ := h.vb
  refine (v_load v b most s.next made 0 addr F s.cs l w hv hB h.nv (by omega) (by omega) ha).mono ?_
  rintro e w' ⟨rfl, F', vs, hB', hv', hg⟩
  exact ⟨rfl, F', h.goes hg (by omega) (by simp; omega) hv' hB', hg.chg, hg.new⟩
theorem me_store {W : World} {v b most : Nat} {s : Ms} {k : Nat} {F : Nat → Prop} {w : World} (h : ME W v b most s k F w) (hk : k ≤ 1000000000) (addr a : Nat) (ha : isU addr) (hu : isU a) :
    Calls Tryz.prog 54 #[.pointer (some ⟨v, 0, none⟩), .int .u64 (addr : Int), .int .u64 (a : Int)] w fun e w' => e = .returned (.tuple #[]) ∧ MEx W v b most ⟨s.next, stN most s.cs addr a⟩ (k + 1) F w w' := by
  obtain ⟨made, l, h1, h2, hv, hB⟩ := h.vb
  refine (v_store v b most s.next made 0 addr a F s.cs l w hv hB h.nv (by omega) (by omega) ha hu).mono ?_
  rintro e w' ⟨rfl, F', vs, hB', hv', hg⟩
  exact ⟨rfl, F', h.goes (s' := ⟨s.next, stN most s.cs addr a⟩) hg (by omega) (by simp; omega) hv' hB', hg.chg, hg.new⟩
theorem me_cas {W : World} {v b most : Nat} {s : Ms} {k : Nat} {F : Nat → Prop} {w : World} (h : ME W v b most s k F w) (hk : k ≤ 1000000000) (addr a n : Nat) (ha : isU addr) (hu : isU n) :
    Calls Tryz.prog 56 #[.pointer (some ⟨v, 0, none⟩), .int .u64 (addr : Int), .int .u64 (a : Int), .int .u64 (n : Int)] w fun e w' => e = .returned (.bool (casOk most s.cs addr a)) ∧ MEx W v b most ⟨s.next, casN most s.cs addr a n⟩ (k + 1) F w w' := by
  obtain ⟨made, l, h1, h2, hv, hB⟩ := h.vb
  refine (v_cas v b most s.next made 0 addr a n F s.cs l w hv hB h.nv (by omega) (by omega) ha hu).mono ?_
  rintro e w' ⟨rfl, F', vs, hB', hv', hg⟩
  exact ⟨rfl, F', h.goes (s' := ⟨s.next, casN most s.cs addr a n⟩) hg (by omega) (by simp; omega) hv' hB', hg.chg, hg.new⟩
theorem me_add {W : World} {v b most : Nat} {s : Ms} {k : Nat} {F : Nat → Prop} {w : World} (h : ME W v b most s k F w) (hk : k ≤ 1000000000) (addr a : Nat) (ha : isU addr) :
    Calls Tryz.prog 58 #[.pointer (some ⟨v, 0, none⟩), .int .u64 (addr : Int), .int .u64 (a : Int)] w fun e w' => e = .returned (.int .u64 (cellN s.cs addr : Int)) ∧ MEx W v b most ⟨s.next, stN most s.cs addr (addN (cellN s.cs addr) a)⟩ (k + 1) F w w' := by
  obtain ⟨made, l, h1, h2, hv, hB⟩ := h.vb
  refine (v_add v b most s.next made 0 addr a F s.cs l w hv hB h.nv (by omega) (by omega) ha).mono ?_
  rintro e w' ⟨rfl, F', vs, hB', hv', hg⟩
  exact ⟨rfl, F', h.goes (s' := ⟨s.next, stN most s.cs addr (addN (cellN s.cs addr) a)⟩) hg (by omega) (by simp; omega) hv' hB', hg.chg, hg.new⟩
theorem me_alloc {W : World} {v b most : Nat} {s : Ms} {k : Nat} {F : Nat → Prop} {w : World} (h : ME W v b most s k F w) (hk : k ≤ 1000000000) (p : Option Addr) (c : Nat) (vals : List Nat) (hr : URd w p vals) (hn : ∀ ad, p = some ad → vals ≠ [] → ¬ F ad.block ∧ ad.block ≠ v) (hv : ∀ x ∈ vals, isU x) (hl : vals.length ≤ 1048576) :
    Calls Tryz.prog 60 #[.pointer (some ⟨v, 0, none⟩), .slice p vals.length c] w fun e w' => e = .returned (.int .u64 (alAt most s.next vals.length : Int)) ∧ MEx W v b most ⟨alNext most s.next vals.length, alN most s.next s.cs vals⟩ (k + 1) F w w' := by
  obtain ⟨made, l, h1, h2, hvw, hB⟩ := h.vb
  have hrd : Reads w p vals := by
    rcases hr with e | ⟨bk, off, rfl, _, hc⟩
    · exact Or.inl e
    · refine Or.inr ⟨⟨bk, off, none⟩, rfl, fun j u hj => ?_⟩
      rw [List.getElem?_map] at hj
      obtain ⟨x, hx, rfl⟩ := Option.map_eq_some_iff.mp hj
      have := hc j x hx
      rw [show (⟨bk, off, none⟩ : Addr).add j = ⟨bk, off + j, none⟩ by unfold Addr.add; split <;> simp_all]
      exact this
  refine (v_alloc v b most s.next made 0 p c vals F s.cs l w hvw hB h.nv (by omega) (by omega) hrd (fun ad e q => (hn ad e q).1) (fun ad e q => (hn ad e q).2) hv (by omega)).mono ?_
  rintro e w' ⟨rfl, F', vs, hB', hv', hg⟩
  exact ⟨rfl, F', h.goes (s' := ⟨alNext most s.next vals.length, alN most s.next s.cs vals⟩) hg (by omega) (by simp; omega) hv' hB', hg.chg, hg.new⟩
theorem beq_cast (x y : Nat) : ((x : Int) == (y : Int)) = decide (x = y) := by
  by_cases h : x = y
  · simp [h]
  · have : ¬ (x : Int) = (y : Int) := by omega
    simp [h, this]
theorem beq_bool (x y : Bool) : (x == y) = decide (x = y) := by cases x <;> cases y <;> rfl
theorem MEx.box {W : World} {v b most : Nat} {s s0 : Ms} {k k0 : Nat} {F : Nat → Prop} {w w0 w' : World} {B : Nat} {o : Obj} (h : MEx W v b most s k F w0 w') (h0 : ME W v b most s0 k0 F w) (hB : B = w.heap.size) (hx : w0.heap[B]? = some o) : w'.heap[B]? = some o := by
  obtain ⟨F', _, hc, _⟩ := h
  refine (hc.block B (lt_of hx) (fun e => ?_)).trans hx
  have := h0.lt
  rcases e with e | e
  · have := this.1 B e; omega
  · omega
theorem MEx.of {W : World} {v b most : Nat} {s : Ms} {k : Nat} {F : Nat → Prop} {w w0 w' : World} (h : MEx W v b most s k F w0 w') (hb : Below w.heap.size w w0) : MEx W v b most s k F w w' := by
  obtain ⟨F', h1, hc, hn⟩ := h
  exact ⟨F', h1, ((belowC hb).mono (G := fun j => F j ∨ j = v) (fun _ _ x => x.elim)).trans hc (fun _ _ x => x) (fun _ _ x => x), fun j hj => (hn j hj).imp id (fun q => Nat.le_trans hb.size q)⟩

set_option maxRecDepth 100000 in
set_option maxHeartbeats 2000000 in
theorem rt_1 {W : World} {v b0 most : Nat} {s : Ms} {k : Nat} {F : Nat → Prop} {w : World} (h : ME W v b0 most s k F w) (hk : k ≤ 1000000000) (th : Int) (kind ad a b got n c : Nat) (p : Option Addr) (ok : Bool) (had : isU ad) (ha : isU a) (hb : isU b) :
    Calls Tryz.prog 51 #[.pointer (some ⟨v, 0, none⟩), .agg #[.int .i64 th, .int .u8 (kind : Int), .int .u64 (ad : Int), .int .u64 (a : Int), .int .u64 (b : Int), .slice p n c, .int .u64 (got : Int), .bool ok]] w fun e w' => e = .returned (.bool (decide (cellN s.cs ad = got))) ∧ MEx W v b0 most s (k + 1) F w w' := by
  obtain ⟨w0, hw0⟩ : ∃ w0, w0 = w.alloc (.cells #[.int .i64 th, .int .u8 (kind : Int), .int .u64 (ad : Int), .int .u64 (a : Int), .int .u64 (b : Int), .slice p n c, .int .u64 (got : Int), .bool ok] 44) := ⟨_, rfl⟩
  obtain ⟨B, hB⟩ : ∃ B, B = w.heap.size := ⟨_, rfl⟩
  have B0 : Below w.heap.size w w0 := by rw [hw0]; exact below_alloc _ _
  have X0 : w0.heap[B]? = some (.cells #[.int .i64 th, .int .u8 (kind : Int), .int .u64 (ad : Int), .int .u64 (a : Int), .int .u64 (b : Int), .slice p n c, .int .u64 (got : Int), .bool ok] 44 (0, 0)) := by rw [hw0, hB]; exact heap_alloc_new _ _
  have HL : Hid (∀ m, Calls Tryz.prog 52 #[.pointer (some ⟨v, 0, none⟩), .int .u64 (ad : Int)] (w0.drewN m) fun e w' => e = .returned (.int .u64 (cellN s.cs ad : Int)) ∧ MEx W v b0 most s (k + 1) F (w0.drewN m) w') := keepH (fun m => me_load ((h.on B0).on (below_drewN (Below.refl _ _) m)) hk ad had)
  have HBX : Hid (∀ m w', MEx W v b0 most s (k + 1) F (w0.drewN m) w' → w'.heap[B]? = some (.cells #[.int .i64 th, .int .u8 (kind : Int), .int .u64 (ad : Int), .int .u64 (a : Int), .int .u64 (b : Int), .slice p n c, .int .u64 (got : Int), .bool ok] 44 (0, 0)) ∧ MEx W v b0 most s (k + 1) F w w') := keepH (fun m w' hx => ⟨hx.box h hB X0, hx.of (below_drewN B0 m)⟩)
  have HS0 : Hid (w0.cell? ⟨B, 2, none⟩ = some (.int .u64 (ad : Int)) ∧ w0.cell? ⟨B, 6, none⟩ = some (.int .u64 (got : Int))) := keepH ⟨cell_of X0 2, cell_of X0 6⟩
  clear h B0 X0 had ha hb
  go_enter Tryz.func51, Tryz.ntmps51
  go_upto_region 1 with fail
  rw [← hw0, ← hB]
  clear hw0 hB
  go_region_held3 (fun w' => w'.cell? ⟨B, 2, none⟩ = some (.int .u64 (ad : Int)) ∧ w'.cell? ⟨B, 6, none⟩ = some (.int .u64 (got : Int))) (first | exact HS0.out | exact hS5) (first | (go_at_call 52; refine (HL.out _).mono ?_; rintro e w2 ⟨rfl, hm⟩; obtain ⟨hx, hm2⟩ := HBX.out _ _ hm; have hS5 : w2.cell? ⟨B, 2, none⟩ = some (.int .u64 (ad : Int)) ∧ w2.cell? ⟨B, 6, none⟩ = some (.int .u64 (got : Int)) := ⟨cell_of hx 2, cell_of hx 6⟩; have HM := keepH hm2; clear hm hx hm2))
  all_goals (
    go_wp2_with fail
    go_ret
    exact ⟨by simp; exact beq_cast _ _, HM.out⟩)

set_option maxRecDepth 100000 in
set_option maxHeartbeats 2000000 in
theorem rt_3 {W : World} {v b0 most : Nat} {s : Ms} {k : Nat} {F : Nat → Prop} {w : World} (h : ME W v b0 most s k F w) (hk : k ≤ 1000000000) (th : Int) (kind ad a b got n c : Nat) (p : Option Addr) (ok : Bool) (had : isU ad) (ha : isU a) (hb : isU b) :
    Calls Tryz.prog 55 #[.pointer (some ⟨v, 0, none⟩), .agg #[.int .i64 th, .int .u8 (kind : Int), .int .u64 (ad : Int), .int .u64 (a : Int), .int .u64 (b : Int), .slice p n c, .int .u64 (got : Int), .bool ok]] w fun e w' => e = .returned (.bool (decide (casOk most s.cs ad a = ok))) ∧ MEx W v b0 most ⟨s.next, casN most s.cs ad a b⟩ (k + 1) F w w' := by
  obtain ⟨w0, hw0⟩ : ∃ w0, w0 = w.alloc (.cells #[.int .i64 th, .int .u8 (kind : Int), .int .u64 (ad : Int), .int .u64 (a : Int), .int .u64 (b : Int), .slice p n c, .int .u64 (got : Int), .bool ok] 44) := ⟨_, rfl⟩
  obtain ⟨B, hB⟩ : ∃ B, B = w.heap.size := ⟨_, rfl⟩
  have B0 : Below w.heap.size w w0 := by rw [hw0]; exact below_alloc _ _
  have X0 : w0.heap[B]? = some (.cells #[.int .i64 th, .int .u8 (kind : Int), .int .u64 (ad : Int), .int .u64 (a : Int), .int .u64 (b : Int), .slice p n c, .int .u64 (got : Int), .bool ok] 44 (0, 0)) := by rw [hw0, hB]; exact heap_alloc_new _ _
  have HL : Hid (∀ m, Calls Tryz.prog 56 #[.pointer (some ⟨v, 0, none⟩), .int .u64 (ad : Int), .int .u64 (a : Int), .int .u64 (b : Int)] (w0.drewN m) fun e w' => e = .returned (.bool (casOk most s.cs ad a)) ∧ MEx W v b0 most ⟨s.next, casN most s.cs ad a b⟩ (k + 1) F (w0.drewN m) w') := keepH (fun m => me_cas ((h.on B0).on (below_drewN (Below.refl _ _) m)) hk ad a b had hb)
  have HBX : Hid (∀ m w', MEx W v b0 most ⟨s.next, casN most s.cs ad a b⟩ (k + 1) F (w0.drewN m) w' → w'.heap[B]? = some (.cells #[.int .i64 th, .int .u8 (kind : Int), .int .u64 (ad : Int), .int .u64 (a : Int), .int .u64 (b : Int), .slice p n c, .int .u64 (got : Int), .bool ok] 44 (0, 0)) ∧ MEx W v b0 most ⟨s.next, casN most s.cs ad a b⟩ (k + 1) F w w') := keepH (fun m w' hx => ⟨hx.box h hB X0, hx.of (below_drewN B0 m)⟩)
  have HS0 : Hid (w0.cell? ⟨B, 2, none⟩ = some (.int .u64 (ad : Int)) ∧ w0.cell? ⟨B, 3, none⟩ = some (.int .u64 (a : Int)) ∧ w0.cell? ⟨B, 4, none⟩ = some (.int .u64 (b : Int)) ∧ w0.cell? ⟨B, 7, none⟩ = some (.bool ok)) := keepH ⟨cell_of X0 2, cell_of X0 3, cell_of X0 4, cell_of X0 7⟩
  clear h B0 X0 had ha hb
  go_enter Tryz.func55, Tryz.ntmps55
  go_upto_region 1 with fail
  rw [← hw0, ← hB]
  clear hw0 hB
  go_region_held3 (fun w' => w'.cell? ⟨B, 2, none⟩ = some (.int .u64 (ad : Int)) ∧ w'.cell? ⟨B, 3, none⟩ = some (.int .u64 (a : Int)) ∧ w'.cell? ⟨B, 4, none⟩ = some (.int .u64 (b : Int)) ∧ w'.cell? ⟨B, 7, none⟩ = some (.bool ok)) (first | exact HS0.out | exact hS5) (first | (go_at_call 56; refine (HL.out _).mono ?_; rintro e w2 ⟨rfl, hm⟩; obtain ⟨hx, hm2⟩ := HBX.out _ _ hm; have hS5 : w2.cell? ⟨B, 2, none⟩ = some (.int .u64 (ad : Int)) ∧ w2.cell? ⟨B, 3, none⟩ = some (.int .u64 (a : Int)) ∧ w2.cell? ⟨B, 4, none⟩ = some (.int .u64 (b : Int)) ∧ w2.cell? ⟨B, 7, none⟩ = some (.bool ok) := ⟨cell_of hx 2, cell_of hx 3, cell_of hx 4, cell_of hx 7⟩; have HM := keepH hm2; clear hm hx hm2))
  all_goals (
    go_wp2_with fail
    go_ret
    exact ⟨by simp; exact beq_bool _ _, HM.out⟩)

set_option maxRecDepth 100000 in
set_option maxHeartbeats 2000000 in
theorem rt_4 {W : World} {v b0 most : Nat} {s : Ms} {k : Nat} {F : Nat → Prop} {w : World} (h : ME W v b0 most s k F w) (hk : k ≤ 1000000000) (th : Int) (kind ad a b got n c : Nat) (p : Option Addr) (ok : Bool) (had : isU ad) (ha : isU a) (hb : isU b) :
    Calls Tryz.prog 57 #[.pointer (some ⟨v, 0, none⟩), .agg #[.int .i64 th, .int .u8 (kind : Int), .int .u64 (ad : Int), .int .u64 (a : Int), .int .u64 (b : Int), .slice p n c, .int .u64 (got : Int), .bool ok]] w fun e w' => e = .returned (.bool (decide (cellN s.cs ad = got))) ∧ MEx W v b0 most ⟨s.next, stN most s.cs ad (addN (cellN s.cs ad) a)⟩ (k + 1) F w w' := by
  obtain ⟨w0, hw0⟩ : ∃ w0, w0 = w.alloc (.cells #[.int .i64 th, .int .u8 (kind : Int), .int .u64 (ad : Int), .int .u64 (a : Int), .int .u64 (b : Int), .slice p n c, .int .u64 (got : Int), .bool ok] 44) := ⟨_, rfl⟩
  obtain ⟨B, hB⟩ : ∃ B, B = w.heap.size := ⟨_, rfl⟩
  have B0 : Below w.heap.size w w0 := by rw [hw0]; exact below_alloc _ _
  have X0 : w0.heap[B]? = some (.cells #[.int .i64 th, .int .u8 (kind : Int), .int .u64 (ad : Int), .int .u64 (a : Int), .int .u64 (b : Int), .slice p n c, .int .u64 (got : Int), .bool ok] 44 (0, 0)) := by rw [hw0, hB]; exact heap_alloc_new _ _
  have HL : Hid (∀ m, Calls Tryz.prog 58 #[.pointer (some ⟨v, 0, none⟩), .int .u64 (ad : Int), .int .u64 (a : Int)] (w0.drewN m) fun e w' => e = .returned (.int .u64 (cellN s.cs ad : Int)) ∧ MEx W v b0 most ⟨s.next, stN most s.cs ad (addN (cellN s.cs ad) a)⟩ (k + 1) F (w0.drewN m) w') := keepH (fun m => me_add ((h.on B0).on (below_drewN (Below.refl _ _) m)) hk ad a had)
  have HBX : Hid (∀ m w', MEx W v b0 most ⟨s.next, stN most s.cs ad (addN (cellN s.cs ad) a)⟩ (k + 1) F (w0.drewN m) w' → w'.heap[B]? = some (.cells #[.int .i64 th, .int .u8 (kind : Int), .int .u64 (ad : Int), .int .u64 (a : Int), .int .u64 (b : Int), .slice p n c, .int .u64 (got : Int), .bool ok] 44 (0, 0)) ∧ MEx W v b0 most ⟨s.next, stN most s.cs ad (addN (cellN s.cs ad) a)⟩ (k + 1) F w w') := keepH (fun m w' hx => ⟨hx.box h hB X0, hx.of (below_drewN B0 m)⟩)
  have HS0 : Hid (w0.cell? ⟨B, 2, none⟩ = some (.int .u64 (ad : Int)) ∧ w0.cell? ⟨B, 3, none⟩ = some (.int .u64 (a : Int)) ∧ w0.cell? ⟨B, 6, none⟩ = some (.int .u64 (got : Int))) := keepH ⟨cell_of X0 2, cell_of X0 3, cell_of X0 6⟩
  clear h B0 X0 had ha hb
  go_enter Tryz.func57, Tryz.ntmps57
  go_upto_region 1 with fail
  rw [← hw0, ← hB]
  clear hw0 hB
  go_region_held3 (fun w' => w'.cell? ⟨B, 2, none⟩ = some (.int .u64 (ad : Int)) ∧ w'.cell? ⟨B, 3, none⟩ = some (.int .u64 (a : Int)) ∧ w'.cell? ⟨B, 6, none⟩ = some (.int .u64 (got : Int))) (first | exact HS0.out | exact hS5) (first | (go_at_call 58; refine (HL.out _).mono ?_; rintro e w2 ⟨rfl, hm⟩; obtain ⟨hx, hm2⟩ := HBX.out _ _ hm; have hS5 : w2.cell? ⟨B, 2, none⟩ = some (.int .u64 (ad : Int)) ∧ w2.cell? ⟨B, 3, none⟩ = some (.int .u64 (a : Int)) ∧ w2.cell? ⟨B, 6, none⟩ = some (.int .u64 (got : Int)) := ⟨cell_of hx 2, cell_of hx 3, cell_of hx 6⟩; have HM := keepH hm2; clear hm hx hm2))
  all_goals (
    go_wp2_with fail
    go_ret
    exact ⟨by simp; exact beq_cast _ _, HM.out⟩)

set_option maxRecDepth 100000 in
set_option maxHeartbeats 2000000 in
theorem rt_5 {W : World} {v b0 most : Nat} {s : Ms} {k : Nat} {F : Nat → Prop} {w : World} (h : ME W v b0 most s k F w) (hk : k ≤ 1000000000) (th : Int) (kind ad a b got n c : Nat) (p : Option Addr) (ok : Bool) (vals : List Nat) (hn : n = vals.length) (hr : URd w p vals) (hne : ∀ x, p = some x → vals ≠ [] → ¬ F x.block ∧ x.block ≠ v) (hv : ∀ x ∈ vals, isU x) (hl : vals.length ≤ 1048576) (had : isU ad) (ha : isU a) (hb : isU b) :
    Calls Tryz.prog 59 #[.pointer (some ⟨v, 0, none⟩), .agg #[.int .i64 th, .int .u8 (kind : Int), .int .u64 (ad : Int), .int .u64 (a : Int), .int .u64 (b : Int), .slice p n c, .int .u64 (got : Int), .bool ok]] w fun e w' => e = .returned (.bool (decide (alAt most s.next n = ad))) ∧ MEx W v b0 most ⟨alNext most s.next vals.length, alN most s.next s.cs vals⟩ (k + 1) F w w' := by
  obtain ⟨w0, hw0⟩ : ∃ w0, w0 = w.alloc (.cells #[.int .i64 th, .int .u8 (kind : Int), .int .u64 (ad : Int), .int .u64 (a : Int), .int .u64 (b : Int), .slice p n c, .int .u64 (got : Int), .bool ok] 44) := ⟨_, rfl⟩
  obtain ⟨B, hB⟩ : ∃ B, B = w.heap.size := ⟨_, rfl⟩
  have B0 : Below w.heap.size w w0 := by rw [hw0]; exact below_alloc _ _
  have X0 : w0.heap[B]? = some (.cells #[.int .i64 th, .int .u8 (kind : Int), .int .u64 (ad : Int), .int .u64 (a : Int), .int .u64 (b : Int), .slice p n c, .int .u64 (got : Int), .bool ok] 44 (0, 0)) := by rw [hw0, hB]; exact heap_alloc_new _ _
  have HL : Hid (∀ m, Calls Tryz.prog 60 #[.pointer (some ⟨v, 0, none⟩), .slice p n c] (w0.drewN m) fun e w' => e = .returned (.int .u64 (alAt most s.next n : Int)) ∧ MEx W v b0 most ⟨alNext most s.next vals.length, alN most s.next s.cs vals⟩ (k + 1) F (w0.drewN m) w') := keepH (fun m => by
    have h1 := (h.on B0).on (below_drewN (Below.refl _ _) m)
    rw [hn]
    exact me_alloc h1 hk p c vals ((hr.on B0).on (below_drewN (Below.refl _ _) m)) hne hv hl)
  have HBX : Hid (∀ m w', MEx W v b0 most ⟨alNext most s.next vals.length, alN most s.next s.cs vals⟩ (k + 1) F (w0.drewN m) w' → w'.heap[B]? = some (.cells #[.int .i64 th, .int .u8 (kind : Int), .int .u64 (ad : Int), .int .u64 (a : Int), .int .u64 (b : Int), .slice p n c, .int .u64 (got : Int), .bool ok] 44 (0, 0)) ∧ MEx W v b0 most ⟨alNext most s.next vals.length, alN most s.next s.cs vals⟩ (k + 1) F w w') := keepH (fun m w' hx => ⟨hx.box h hB X0, hx.of (below_drewN B0 m)⟩)
  have HS0 : Hid (w0.cell? ⟨B, 2, none⟩ = some (.int .u64 (ad : Int)) ∧ w0.cell? ⟨B, 5, none⟩ = some (.slice p n c)) := keepH ⟨cell_of X0 2, cell_of X0 5⟩
  clear h B0 X0 had ha hb hn hr hne hv hl
  go_enter Tryz.func59, Tryz.ntmps59
  go_upto_region 1 with fail
  rw [← hw0, ← hB]
  clear hw0 hB
  go_region_held3 (fun w' => w'.cell? ⟨B, 2, none⟩ = some (.int .u64 (ad : Int)) ∧ w'.cell? ⟨B, 5, none⟩ = some (.slice p n c)) (first | exact HS0.out | exact hS5) (first | (go_at_call 60; refine (HL.out _).mono ?_; rintro e w2 ⟨rfl, hm⟩; obtain ⟨hx, hm2⟩ := HBX.out _ _ hm; have hS5 : w2.cell? ⟨B, 2, none⟩ = some (.int .u64 (ad : Int)) ∧ w2.cell? ⟨B, 5, none⟩ = some (.slice p n c) := ⟨cell_of hx 2, cell_of hx 5⟩; have HM := keepH hm2; clear hm hx hm2))
  all_goals (
    go_wp2_with fail
    go_ret
    exact ⟨by simp; exact beq_cast _ _, HM.out⟩)

set_option maxRecDepth 100000 in
set_option maxHeartbeats 2000000 in
theorem rt_2 {W : World} {v b0 most : Nat} {s : Ms} {k : Nat} {F : Nat → Prop} {w : World} (h : ME W v b0 most s k F w) (hk : k ≤ 1000000000) (th : Int) (kind ad a b got n c : Nat) (p : Option Addr) (ok : Bool) (had : isU ad) (ha : isU a) :
    Calls Tryz.prog 53 #[.pointer (some ⟨v, 0, none⟩), .agg #[.int .i64 th, .int .u8 (kind : Int), .int .u64 (ad : Int), .int .u64 (a : Int), .int .u64 (b : Int), .slice p n c, .int .u64 (got : Int), .bool ok]] w fun e w' => e = .returned (.bool true) ∧ MEx W v b0 most ⟨s.next, stN most s.cs ad a⟩ (k + 1) F w w' := by
  obtain ⟨w0, hw0⟩ : ∃ w0, w0 = w.alloc (.cells #[.int .i64 th, .int .u8 (kind : Int), .int .u64 (ad : Int), .int .u64 (a : Int), .int .u64 (b : Int), .slice p n c, .int .u64 (got : Int), .bool ok] 44) := ⟨_, rfl⟩
  obtain ⟨B, hB⟩ : ∃ B, B = w.heap.size := ⟨_, rfl⟩
  have B0 : Below w.heap.size w w0 := by rw [hw0]; exact below_alloc _ _
  have X0 : w0.heap[B]? = some (.cells #[.int .i64 th, .int .u8 (kind : Int), .int .u64 (ad : Int), .int .u64 (a : Int), .int .u64 (b : Int), .slice p n c, .int .u64 (got : Int), .bool ok] 44 (0, 0)) := by rw [hw0, hB]; exact heap_alloc_new _ _
  have hs := me_store (h.on B0) hk ad a had ha
  have HB0 := keepH B0
  have x2 : w0.cell? ⟨B, 2, none⟩ = some (.int .u64 (ad : Int)) := cell_of X0 2
  have x3 : w0.cell? ⟨B, 3, none⟩ = some (.int .u64 (a : Int)) := cell_of X0 3
  clear h B0 X0 had ha
  go_enter Tryz.func53, Tryz.ntmps53
  go_upto_region 1 with fail
  rw [← hw0, ← hB]
  clear hw0 hB
  go_wp2_with fail
  refine hs.mono ?_
  rintro e w2 ⟨rfl, hm⟩
  have HM := keepH (hm.of HB0.out)
  clear hm
  go_wp2_with fail
  go_ret
  exact ⟨by simp, HM.out⟩
end Go.Proofs.YtjodechhnobkhaaGreatDoor
