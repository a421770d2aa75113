/- Snapshots that are made; a Snapshot's step over an interface; slots that are made. -/
import Derived.Test.YtlgkioaomcobdaaGreatAg
namespace Go.Proofs.YtlgkioaomcobdaaGreat
open Go.RowKit Go.Shelf
set_option linter.unusedVariables false

theorem SnS.alloc {W : World} {m b v most : Nat} {th : Int} {p q t cam mst : Nat} {D : Nat → Prop} {w : World} {next made : Nat} {cs : List Nat} {n : Nat} {l : List Value} {np ns tp ts te : Nat} {mv : Bool} (h : SnS W m b v most th p q t cam mst D w next made cs n l np ns tp ts te mv) (o : Obj) : SnS W m b v most th p q t cam mst (fun k => D k ∨ k = w.heap.size) (w.alloc o) next made cs n l np ns tp ts te mv := by
  have l1 := lt_of h.blk
  have l2 := lt_of h.now
  have l3 := lt_of h.take
  refine ⟨(h.sr.alloc o).mono (fun k e => ?_), alloc_of h.blk _, alloc_of h.now _, alloc_of h.take _, h.ap.1, h.ap.2.1, h.ap.2.2.1, fun e => e.elim h.ap.2.2.2.1 (fun z => by omega), fun e => e.elim h.ap.2.2.2.2.1 (fun z => by omega), fun e => e.elim h.ap.2.2.2.2.2 (fun z => by omega)⟩
  rcases e with (e | e) | e
  · exact .inl (.inl e)
  · exact .inr e
  · exact .inl (.inr e)
theorem SnS.drop {W : World} {m b v most : Nat} {th : Int} {p q t cam mst : Nat} {D : Nat → Prop} {w : World} {next made : Nat} {cs : List Nat} {n : Nat} {l : List Value} {np ns tp ts te g : Nat} {mv : Bool} (h : SnS W m b v most th p q t cam mst (fun k => D k ∨ k = g) w next made cs n l np ns tp ts te mv) (u : Value) : SnS W m b v most th p q t cam mst D (w.setCell ⟨g, 0, none⟩ u) next made cs n l np ns tp ts te mv := by
  have a := h.ap
  have n1 : p ≠ g := fun e => a.2.2.2.1 (.inr e)
  have n2 : q ≠ g := fun e => a.2.2.2.2.1 (.inr e)
  have n3 : t ≠ g := fun e => a.2.2.2.2.2 (.inr e)
  refine ⟨(h.sr.put (setP (p := g) (i := 0) u) (fun k e => .inl (.inr e))).mono (fun k e => ?_), (Below.heap_setCell _ _ _ _ n1).trans h.blk, (Below.heap_setCell _ _ _ _ n2).trans h.now, (Below.heap_setCell _ _ _ _ n3).trans h.take, a.1, a.2.1, a.2.2.1, fun e => a.2.2.2.1 (.inl e), fun e => a.2.2.2.2.1 (.inl e), fun e => a.2.2.2.2.2 (.inl e)⟩
  rcases e with e | e
  · exact .inl (.inl e)
  · exact .inr e
theorem mt_step_snap (a : Addr) (w : World) : (method 279 52 (.pointer (some a)) "Step").run Tryz.prog w = .ok (84, .pointer (some a)) w := by kernel_rfl
set_option maxRecDepth 100000 in
theorem so_snap (p : Nat) (v : Value) (d : Bool) (K : World → Prop) (W : World)
    (hK : Calls Tryz.prog 84 #[.pointer (some ⟨p, 0, none⟩), v] (W.alloc (.cells #[.bool false] 4)) fun e W' => e = .returned (.bool d) ∧ K W' ∧ W'.heap[W.heap.size]? = (W.alloc (.cells #[.bool false] 4)).heap[W.heap.size]?) :
    Calls Tryz.prog 36 #[.iface 52 (.pointer (some ⟨p, 0, none⟩)), v] W fun e W' => e = .returned (.bool d) ∧ ∃ W1, K W1 ∧ W' = W1.setCell ⟨W.heap.size, 0, none⟩ (.bool d) := by
  have hmf : ∀ (fn : Fn) (first cap : Array Value) (w : World), (Instr.makeFunc fn first cap).run Tryz.prog w = .ok (.func fn first cap) w := fun _ _ _ _ => rfl
  have hm := mt_step_snap ⟨p, 0, none⟩
  have HK := keepH hK
  clear hK
  go_enter_defers Tryz.func36, Tryz.ntmps36
  go_wp2_with fail
  refine HK.out.mono ?_
  rintro e W1 ⟨rfl, hR, hb0⟩
  have hb : W1.heap[W.heap.size]? = some (.cells #[.bool false] 4 (0, 0)) := hb0.trans (heap_alloc_new _ _)
  have c0 : W1.cell? ⟨W.heap.size, 0, none⟩ = some (.bool false) := cell_of hb 0
  have f0 := free_of hb 0
  have HR := keepH hR
  clear hR hb hb0
  go_wp2_with fail
  refine leaves_cons (f := 46) (args := #[.pointer (some ⟨W.heap.size, 0, none⟩)]) (by simp) (by simp [go_sem]) ?_
  refine (s_catch ⟨W.heap.size, 0, none⟩ _).mono ?_
  rintro e u' w'' ⟨rfl, rfl, rfl⟩
  have r0 := World.cell?_setCell_same' W1 ⟨W.heap.size, 0, none⟩ (.bool d) (by rw [c0]; rfl)
  simp [Leaves, settle, results, Tryz.results36, go_sem, r0]
  exact ⟨W1, HR.out, rfl⟩
theorem ss_so {W : World} {m b v most : Nat} {th : Int} {p q t cam mst : Nat} {D : Nat → Prop} {w : World} {next made : Nat} {cs : List Nat} {n : Nat} {l : List Value} {np ns tp ts te : Nat} {mv : Bool} {next' made' : Nat} {cs' : List Nat} {n' : Nat} {l' : List Value} {np' ns' tp' ts' te' : Nat} {mv' : Bool} (h : SnS W m b v most th p q t cam mst D w next made cs n l np ns tp ts te mv) (d : Bool)
    (hs : ∀ w0 D0, SnS W m b v most th p q t cam mst D0 w0 next made cs n l np ns tp ts te mv → Calls Tryz.prog 84 #[.pointer (some ⟨p, 0, none⟩), .pointer (some ⟨v, 0, none⟩)] w0 fun e w' => e = .returned (.bool d) ∧ SnS W m b v most th p q t cam mst D0 w' next' made' cs' n' l' np' ns' tp' ts' te' mv' ∧ Kept D0 w0 w') :
    Calls Tryz.prog 36 #[.iface 52 (.pointer (some ⟨p, 0, none⟩)), .pointer (some ⟨v, 0, none⟩)] w fun e w' => e = .returned (.bool d) ∧ SnS W m b v most th p q t cam mst D w' next' made' cs' n' l' np' ns' tp' ts' te' mv' ∧ Kept D w w' := by
  have c0 := h.alloc (.cells #[.bool false] 4)
  refine (so_snap p _ d (fun w1 => SnS W m b v most th p q t cam mst (fun k => D k ∨ k = w.heap.size) w1 next' made' cs' n' l' np' ns' tp' ts' te' mv' ∧ Kept D w w1) w ((hs _ _ c0).mono ?_)).mono ?_
  · rintro e w1 ⟨rfl, S, K⟩
    exact ⟨rfl, ⟨S, fun k hk => (K k (.inl hk)).trans (Below.heap_alloc _ _ _ (h.sr.lt k (.inl hk)))⟩, K _ (.inr rfl)⟩
  · rintro e w' ⟨rfl, w1, ⟨S, K⟩, rfl⟩
    exact ⟨rfl, S.drop _, fun k hk => (Below.heap_setCell _ _ _ _ (fun e => by have := h.sr.lt k (.inl hk); have e' : k = w.heap.size := e; omega)).trans (K k hk)⟩

set_option maxRecDepth 100000 in
theorem a_bounded (cam fst cnt mst : Nat) (h2 : cnt ≤ 256) (W : World) :
    Calls Tryz.prog 33 #[.agg #[.int .u64 (cam : Int), .int .u64 (fst : Int), .int .i64 (cnt : Int), .int .u64 (mst : Int)]] W fun e W' => e = .returned (.agg #[.int .u64 (cam : Int), .int .u64 (fst : Int), .int .i64 (cnt : Int), .int .u64 (mst : Int)]) ∧ Chg (fun _ => False) W W' := by
  have t1 : ¬ (cnt : Int) < 0 := by omega
  have t2 : ¬ (256 : Int) < (cnt : Int) := by omega
  go_enter Tryz.func33, Tryz.ntmps33
  go_wp2_with fail
  exact bodyPost_ret (v := .agg #[.int .u64 (cam : Int), .int .u64 (fst : Int), .int .i64 (cnt : Int), .int .u64 (mst : Int)]) (by simp [results, Tryz.results33, go_sem]) rfl ⟨rfl, ((Chg.refl _ _).alloc _).alloc _⟩
set_option maxRecDepth 100000 in
set_option maxHeartbeats 2000000 in
theorem sn_new (cam fst cnt mst : Nat) (h1 : 1 ≤ cnt) (h2 : cnt ≤ 256) (W : World) :
    Calls Tryz.prog 20 #[.agg #[.int .u64 (cam : Int), .int .u64 (fst : Int), .int .i64 (cnt : Int), .int .u64 (mst : Int)]] W fun e W' => ∃ p q t, e = .returned (.pointer (some ⟨p, 0, none⟩)) ∧ Blk W' p 90 (snL cam fst cnt mst 1 0 0 0 (.pointer (some ⟨q, 0, none⟩)) (.pointer (some ⟨t, 0, none⟩)) 0 0 0) ∧ IsNow W' q cam 0 0 ∧ IsTake W' t cam mst 0 0 0 false ∧ Chg (fun _ => False) W W' ∧ W.heap.size ≤ p ∧ p < q ∧ q < t ∧ t < W'.heap.size := by
  have n0 : ((cnt : Int) == 0) = false := beq_eq_false_iff_ne.2 (by omega)
  obtain ⟨w0, hw0⟩ : ∃ w0, w0 = W.alloc (.cells #[.int .u64 (cam : Int), .int .u64 (fst : Int), .int .i64 (cnt : Int), .int .u64 (mst : Int)] 24) := ⟨_, rfl⟩
  have b0 : w0.heap[W.heap.size]? = some (.cells #[.int .u64 (cam : Int), .int .u64 (fst : Int), .int .i64 (cnt : Int), .int .u64 (mst : Int)] 24 (0, 0)) := by rw [hw0]; exact heap_alloc_new _ _
  have HC0 : Hid (Chg (fun _ => False) W w0) := by rw [hw0]; exact (Chg.refl _ _).alloc _
  have HSB : Hid (W.heap.size < w0.heap.size) := lt_of b0
  have c0 : w0.cell? ⟨W.heap.size, 0, none⟩ = some (.int .u64 (cam : Int)) := cell_of b0 0
  have c1 : w0.cell? ⟨W.heap.size, 1, none⟩ = some (.int .u64 (fst : Int)) := cell_of b0 1
  have c2 : w0.cell? ⟨W.heap.size, 2, none⟩ = some (.int .i64 (cnt : Int)) := cell_of b0 2
  have c3 : w0.cell? ⟨W.heap.size, 3, none⟩ = some (.int .u64 (mst : Int)) := cell_of b0 3
  have HB0 := keepH b0
  clear b0
  go_enter Tryz.func20, Tryz.ntmps20
  go_upto_region 1 with fail
  rw [← hw0]
  clear hw0
  go_wp2_with fail
  refine (a_bounded cam fst cnt mst h2 _).mono ?_
  rintro e w1 ⟨rfl, C1⟩
  have HB1 := keepH ((C1.block _ (lt_of HB0.out) (fun x => x)).trans HB0.out)
  have HC1 := keepH (HC0.out.f C1)
  have HL1 : Hid (W.heap.size < w1.heap.size) := lt_of HB1.out
  clear C1 HB0 c0 c1 c2 c3 HC0 HSB
  obtain ⟨sb, hsb⟩ : ∃ sb, sb = W.heap.size := ⟨_, rfl⟩
  rw [← hsb] at HB1 HL1 ⊢
  have HSB := keepH hsb
  clear hsb
  obtain ⟨w2, hw2⟩ : ∃ w2, w2 = w1.alloc (.cells (snL cam fst cnt mst 1 0 0 0 (.pointer none) (.pointer none) 0 0 0).toArray 90) := ⟨_, rfl⟩
  have P2 : Blk w2 w1.heap.size 90 (snL cam fst cnt mst 1 0 0 0 (.pointer none) (.pointer none) 0 0 0) := by rw [hw2]; exact heap_alloc_new _ _
  have B2 := alloc_of HB1.out (.cells (snL cam fst cnt mst 1 0 0 0 (.pointer none) (.pointer none) 0 0 0).toArray 90)
  rw [← hw2] at B2
  have HC2 : Hid (Chg (fun _ => False) W w2) := by rw [hw2]; exact HC1.out.f ((Chg.refl _ _).alloc _)
  have d0 : w2.cell? ⟨sb, 0, none⟩ = some (.int .u64 (cam : Int)) := cell_of B2 0
  have d3 : w2.cell? ⟨sb, 3, none⟩ = some (.int .u64 (mst : Int)) := cell_of B2 3
  have hw2' : w2 = w1.alloc (.cells #[.int .u64 (cam : Int), .int .u64 (fst : Int), .int .i64 (cnt : Int), .int .u64 (mst : Int), .int .u8 1, .int .i64 0, .int .u64 0, .int .u64 0, .pointer none, .pointer none, .int .u64 0, .int .u64 0, .int .i64 0] 90) := hw2
  go_upto_region 2 with fail
  rw [← hw2']
  clear hw2 hw2' HC1 HB1
  obtain ⟨p, hp⟩ : ∃ p, p = w1.heap.size := ⟨_, rfl⟩
  rw [← hp] at P2 HL1 ⊢
  clear hp
  have HP2 := keepH P2
  have HB2 := keepH B2
  clear P2 B2
  go_wp2_with fail
  refine (n_new cam _).mono ?_
  rintro e w3 ⟨rfl, rfl⟩
  obtain ⟨w3, hw3⟩ : ∃ w3, w3 = w2.alloc (.cells #[.int .u64 (cam : Int), .int .u8 0, .int .u64 0] 116) := ⟨_, rfl⟩
  have N3 : IsNow w3 w2.heap.size cam 0 0 := by rw [hw3]; exact heap_alloc_new _ _
  have P3 : Blk w3 p 90 (snL cam fst cnt mst 1 0 0 0 (.pointer none) (.pointer none) 0 0 0) := by rw [hw3]; exact alloc_of HP2.out _
  have B3 := alloc_of HB2.out (.cells #[.int .u64 (cam : Int), .int .u8 0, .int .u64 0] 116)
  rw [← hw3] at B3
  have HC3 : Hid (Chg (fun _ => False) W w3) := by rw [hw3]; exact HC2.out.f ((Chg.refl _ _).alloc _)
  have HQ : Hid (p < w2.heap.size) := lt_of HP2.out
  rw [← hw3]
  obtain ⟨q, hq⟩ : ∃ q, q = w2.heap.size := ⟨_, rfl⟩
  rw [← hq] at N3 HQ ⊢
  clear hw3 hq HP2 HB2 HC2 d0 d3
  have e8 : w3.cell? ⟨p, 8, none⟩ = some (.pointer none) := P3.cell 8
  have g8 := P3.free 8
  have P4 := P3.set 8 (.pointer (some ⟨q, 0, none⟩))
  obtain ⟨w4, hw4⟩ : ∃ w4, w4 = w3.setCell ⟨p, 8, none⟩ (.pointer (some ⟨q, 0, none⟩)) := ⟨_, rfl⟩
  have C34 : Chg (fun k => k = p) w3 w4 := by rw [hw4]; exact setP _
  rw [← hw4] at P4
  have HN4 := keepH (N3.chg C34 (fun e => by have := HQ.out; omega))
  have B4 := (C34.block sb (lt_of B3) (fun e => by have := HL1.out; omega)).trans B3
  have HP4 := keepH P4
  have HB4 := keepH B4
  have z3 := HC3.out.size
  have HC4 : Hid (Chg (fun k => W.heap.size ≤ k) W w4) := HC3.out.trans C34 (fun _ _ x => x.elim) (fun i _ e => by have := HL1.out; have := HSB.out; show _ ≤ _; omega)
  have d0 : w4.cell? ⟨sb, 0, none⟩ = some (.int .u64 (cam : Int)) := cell_of B4 0
  have d3 : w4.cell? ⟨sb, 3, none⟩ = some (.int .u64 (mst : Int)) := cell_of B4 3
  clear P4 N3 B3 B4 P3 z3
  go_upto_region 3 with fail
  rw [← hw4]
  clear hw4 C34 e8 g8 HC3
  go_wp2_with fail
  refine (t_new cam mst _).mono ?_
  rintro e w5 ⟨rfl, rfl⟩
  obtain ⟨w5, hw5⟩ : ∃ w5, w5 = w4.alloc (.cells #[.int .u64 (cam : Int), .int .u64 (mst : Int), .int .u8 0, .int .u64 0, .int .i64 0, .bool false] 118) := ⟨_, rfl⟩
  have T5 : IsTake w5 w4.heap.size cam mst 0 0 0 false := by rw [hw5]; exact heap_alloc_new _ _
  have P5 : Blk w5 p 90 (snL cam fst cnt mst 1 0 0 0 (.pointer (some ⟨q, 0, none⟩)) (.pointer none) 0 0 0) := by rw [hw5]; exact alloc_of HP4.out _
  have N5 : IsNow w5 q cam 0 0 := by rw [hw5]; exact alloc_of HN4.out _
  have C5 : Chg (fun _ => False) w4 w5 := by rw [hw5]; exact (Chg.refl _ _).alloc _
  have HT : Hid (q < w4.heap.size) := lt_of HN4.out
  have HC5 : Hid (Chg (fun k => W.heap.size ≤ k) W w5) := HC4.out.trans C5 (fun _ _ x => x) (fun _ _ x => x.elim)
  rw [← hw5]
  obtain ⟨t, ht⟩ : ∃ t, t = w4.heap.size := ⟨_, rfl⟩
  rw [← ht] at T5 HT ⊢
  clear hw5 ht C5 HP4 HB4 HN4 HC4 d0 d3
  have e9 : w5.cell? ⟨p, 9, none⟩ = some (.pointer none) := P5.cell 9
  have g9 := P5.free 9
  have P6 := P5.set 9 (.pointer (some ⟨t, 0, none⟩))
  obtain ⟨w6, hw6⟩ : ∃ w6, w6 = w5.setCell ⟨p, 9, none⟩ (.pointer (some ⟨t, 0, none⟩)) := ⟨_, rfl⟩
  have C56 : Chg (fun k => k = p) w5 w6 := by rw [hw6]; exact setP _
  rw [← hw6] at P6
  have HN6 := keepH (N5.chg C56 (fun e => by have := HQ.out; omega))
  have HT6 := keepH (T5.chg C56 (fun e => by have := HQ.out; have := HT.out; omega))
  have HP6 := keepH P6
  have HC6 : Hid (Chg (fun k => W.heap.size ≤ k) W w6) := HC5.out.trans C56 (fun _ _ x => x) (fun i _ e => by have := HL1.out; have := HSB.out; show _ ≤ _; omega)
  have k2 : w6.cell? ⟨p, 2, none⟩ = some (.int .i64 (cnt : Int)) := P6.cell 2
  clear P6 N5 T5 P5
  go_upto_region 4 with fail
  rw [← hw6]
  clear hw6 C56 e9 g9 HC5
  go_wp2_with fail
  go_ret
  refine ⟨p, q, t, by simp, HP6.out, HN6.out, HT6.out, ?_, by have := HL1.out; have := HSB.out; omega, HQ.out, HT.out, lt_of HT6.out⟩
  have z := HC6.out
  exact ⟨z.os, z.tape, z.output, z.size, fun i hi _ => z.block i hi (by omega)⟩
end Go.Proofs.YtlgkioaomcobdaaGreat
