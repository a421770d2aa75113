/- Calls, placed. -/
import Derived.Test.YtadbgmcfjemkeaaHv
import Derived.WalkKit
namespace Go.Proofs.Ytadbgmcfjemkeaa
open Go.RowKit Go.Shelf
set_option linter.unusedVariables false

def CallV.pl (k : CallV) : CallV := ⟨k.kind, 2 + k.obj % 3, k.a, k.b⟩
theorem CallV.pl_o (k : CallV) : isO k.pl.obj := ⟨by simp [CallV.pl], by simp only [CallV.pl]; omega⟩
theorem infoCall : (Try.prog.info? 50).map (fun i => (i.zero, i.size, i.bytes)) = some (some (.agg #[.int .i64 0, .int .u64 0, .int .u64 0, .int .u64 0]), 4, 32) := by kernel_rfl
theorem infoCs : (Try.prog.info? 51).map (fun i => (i.zero, i.size, i.bytes)) = some (some (.slice none 0 0), 1, 24) := by kernel_rfl
/-- Rows of calls that were placed. -/
structure PB (W X : World) (ov : Value) (R : List ThrV) : Prop where
  own : X.ownsRow 0 51 1 ov R.length (R.map ThrV.v)
  ks : ∀ t ∈ R, X.ownsRow 0 50 4 t.v t.ks.length (t.ks.flatMap CallV.cells)
  new : ∀ k, ov.ownBlock = some k → W.heap.size ≤ k
  chg : Chg (fun _ => False) W X
theorem PB.quiet {W X Y : World} {ov : Value} {R : List ThrV} (h : PB W X ov R) (c : Chg (fun _ => False) X Y) : PB W Y ov R :=
  ⟨row_kept h.own fun k e => c.block k (row_lt h.own k e) (fun x => x), fun t ht => row_kept (h.ks t ht) fun k e => c.block k (row_lt (h.ks t ht) k e) (fun x => x), h.new, h.chg.trans c (fun _ _ x => x) (fun _ _ x => x)⟩
theorem PB.start (W : World) : PB W W (.slice none 0 0) [] := ⟨World.ownsRow_nil _ _ _ _, fun t ht => by simp at ht, fun k e => by simp [Value.ownBlock] at e, Chg.refl _ _⟩
/-- One row of them, under way. -/
structure PR (X0 X : World) (lv : Value) (ks : List CallV) : Prop where
  own : X.ownsRow 0 50 4 lv ks.length (ks.flatMap CallV.cells)
  new : ∀ k, lv.ownBlock = some k → X0.heap.size ≤ k
  chg : Chg (fun _ => False) X0 X
theorem PR.start (X : World) : PR X X (.slice none 0 0) [] := ⟨World.ownsRow_nil _ _ _ _, fun k e => by simp [Value.ownBlock] at e, Chg.refl _ _⟩
theorem PR.app {X0 X Y Z : World} {lv v' : Value} {ks : List CallV} {k : CallV} (h : PR X0 X lv ks) (c : Chg (fun _ => False) X Y) (hr : Z.ownsRow 0 50 4 v' (ks.length + 1) (ks.flatMap CallV.cells ++ k.cells)) (hg : Y.grownBy Z lv.ownBlock) (ho : v'.ownBlock = lv.ownBlock ∨ v'.ownBlock = some Y.heap.size) : PR X0 Z v' (ks ++ [k]) := by
  have s1 := h.chg.size
  have s2 := c.size
  refine ⟨by simpa using hr, fun g e => ?_, (h.chg.trans c (fun _ _ x => x) (fun _ _ x => x)).grown hg (fun g e hg => by have := h.new g e; omega)⟩
  rcases ho with z | z
  · rw [z] at e; exact h.new g e
  · rw [z] at e; simp at e; omega
theorem PR.close {W X0 X Z : World} {ov lv v' : Value} {R : List ThrV} {ks : List CallV} {ob : Obj} {p : Option Addr} {c : Nat} (h : PR X0 X lv ks) (B : PB W X0 ov R) (hl : lv = .slice p ks.length c) (hr : Z.ownsRow 0 51 1 v' (R.length + 1) (R.map ThrV.v ++ [lv])) (hg : (X.alloc ob).grownBy Z ov.ownBlock) (ho : v'.ownBlock = ov.ownBlock ∨ v'.ownBlock = some (X.alloc ob).heap.size) : PB W Z v' (R ++ [⟨p, c, ks⟩]) := by
  have B' := B.quiet h.chg
  have cg : Chg (fun k => ov.ownBlock = some k) X Z := grow_chg hg
  have sz := B'.chg.size
  refine ⟨by simpa [ThrV.v, hl] using hr, fun t ht => ?_, fun g e => ?_, B'.chg.trans cg (fun _ _ x => x) (fun i hi e => by have := B.new i e; omega)⟩
  · rcases List.mem_append.1 ht with z | z
    · exact row_kept (B'.ks t z) fun k e => cg.block k (row_lt (B'.ks t z) k e) (fun y => rows_apart B'.own (B'.ks t z) (by decide) k y e)
    · simp at z
      subst z
      have ho2 := h.own
      rw [hl] at ho2
      exact row_kept ho2 fun k e => cg.block k (row_lt ho2 k e) (fun y => rows_apart B'.own ho2 (by decide) k y e)
  · rcases ho with z | z
    · rw [z] at e; exact B.new g e
    · rw [z] at e; simp at e; omega
theorem PB.at {W X : World} {ov : Value} {R : List ThrV} {p : Option Addr} {c : Nat} (h : PB W X ov R) (hv : ov = .slice p R.length c) (hl : ∀ t ∈ R, t.ks.length ≤ 1048576) (hok : ∀ t ∈ R, ∀ k ∈ t.ks, k.ok) : ThsAt X p R := by
  refine ⟨?_, fun t ht => ?_, hl, hok⟩
  · by_cases e : R = []
    · exact .inl e
    · have hp : 0 < R.length := List.length_pos_iff.2 e
      have ho := h.own
      obtain ⟨g, c', e2⟩ := slice_pos ho hp
      rw [hv] at e2
      simp only [Value.slice.injEq] at e2
      obtain ⟨rfl, _, rfl⟩ := e2
      rw [hv] at ho
      refine .inr ⟨g, 0, rfl, row_lt ho g rfl, fun i t ht => ?_⟩
      have hi := (List.getElem?_eq_some_iff.1 ht).1
      rw [Nat.zero_add, World.ownsRow.cellAt ho i (by omega), List.getElem?_map, ht]
      rfl
  · by_cases e : t.ks = []
    · exact .inl e
    · have hp : 0 < t.ks.length := List.length_pos_iff.2 e
      have ho := h.ks t ht
      obtain ⟨g, c', e2⟩ := slice_pos ho hp
      unfold ThrV.v at e2
      simp only [Value.slice.injEq] at e2
      refine .inr ⟨g, 0, e2.1, ?_, fun i k hk j u hj => ?_⟩
      · unfold ThrV.v at ho; rw [e2.1] at ho; exact row_lt ho g rfl
      · have hi := (List.getElem?_eq_some_iff.1 hk).1
        have hj4 : j < 4 := (List.getElem?_eq_some_iff.1 hj).1
        unfold ThrV.v at ho
        rw [e2.1] at ho
        rw [Nat.zero_add, World.ownsRow.cellAt ho (i * 4 + j) (by omega), rowOf_get CallV.cells 4 (fun _ => rfl) _ i j hj4, hk]
        exact hj
set_option maxRecDepth 100000 in
set_option maxHeartbeats 4000000 in
theorem v_placed (p : Option Addr) (c : Nat) (L : List ThrV) (W : World) (h : ThsAt W p L) (hl : L.length ≤ 1048576) :
    Calls Try.prog 28 #[.int .u64 1, .slice p L.length c] W fun e W' => ∃ p' c' R, e = .returned (.slice p' R.length c') ∧ PB W W' (.slice p' R.length c') R ∧ R.map ThrV.ks = L.map (fun t => t.ks.map CallV.pl) := by
  obtain ⟨i0, hi, hz0, hz1, hz2⟩ := info_parts infoCs
  obtain ⟨j0, hj, hy0, hy1, hy2⟩ := info_parts infoCall
  have H := keepH h
  clear h
  go_enter Try.func28, Try.ntmps28
  go_wp2_with fail
  go_loopw [5, 6] (fun ov sv wr => ∃ (n : Nat) (R : List ThrV), n ≤ L.length ∧ R.length = n ∧ sv = .int .i64 (n : Int) ∧ Hid (PB W wr ov R) ∧ Hid (R.map ThrV.ks = (L.take n).map (fun t => t.ks.map CallV.pl))) (fun _ sv _ => L.length - (intOf sv).toNat)
  case atStart => exact ⟨0, [], by omega, rfl, rfl, PB.start W, by simp [Hid]⟩
  case round =>
    obtain ⟨n, R, hn, rfl, rfl, HB, HM⟩ := hrel
    obtain ⟨p5, c5, hv5⟩ := slice_of HB.out.own
    subst hv5
    by_cases hlt : R.length < L.length
    · have t1 : (R.length : Int) < (L.length : Int) := by omega
      obtain ⟨t, ht⟩ : ∃ t, L[R.length]? = some t := ⟨L[R.length], List.getElem?_eq_getElem hlt⟩
      have HTt := keepH ht
      have mt := List.mem_of_getElem? ht
      have hlen : t.ks.length ≤ 1048576 := H.out.len t mt
      obtain ⟨bk, off, hp, hb, hc0⟩ := H.out.row.resolve_left (fun e => by rw [e] at hlt; simp at hlt)
      subst hp
      have HCc : Hid (W.cell? ⟨bk, off + R.length, none⟩ = some (.slice t.p t.ks.length t.c)) := hc0 _ t ht
      have HK := keepH (H.out.ks t mt)
      have hc : wr.cell? ⟨bk, off + R.length, none⟩ = some (.slice t.p t.ks.length t.c) := cell_chg HB.out.chg HCc.out (fun x => x)
      clear hc0 hb ht mt
      obtain ⟨X0, hX0⟩ : ∃ X0, X0 = wr := ⟨_, rfl⟩
      have HP0 : Hid (PR X0 wr (.slice none 0 0) []) := by rw [hX0]; exact PR.start wr
      have HB0 : Hid (PB W X0 (.slice p5 R.length c5) R) := by rw [hX0]; exact HB.out
      clear hX0 HB
      go_wp2_with fail
      go_loopw [7, 8] (fun lv sv wi => ∃ k : Nat, k ≤ t.ks.length ∧ sv = .int .i64 (k : Int) ∧ Hid (PR X0 wi lv ((t.ks.take k).map CallV.pl))) (fun _ sv _ => t.ks.length - (intOf sv).toNat)
      case atStart => exact ⟨0, by omega, rfl, by simpa using HP0⟩
      case round =>
        obtain ⟨k, hk, rfl, HP⟩ := hrel
        have elen : ((t.ks.take k).map CallV.pl).length = k := by simp; omega
        obtain ⟨p7, c7, hv7⟩ := slice_of HP.out.own
        rw [elen] at hv7
        subst hv7
        have Cn : Chg (fun _ => False) W wr := (HB0.out.quiet HP.out.chg).chg
        have hc2 : wr.cell? ⟨bk, off + R.length, none⟩ = some (.slice t.p t.ks.length t.c) := cell_chg Cn HCc.out (fun x => x)
        by_cases hk2 : k < t.ks.length
        · have t2 : (k : Int) < (t.ks.length : Int) := by omega
          obtain ⟨q, hq⟩ : ∃ q, t.ks[k]? = some q := ⟨t.ks[k], List.getElem?_eq_getElem hk2⟩
          obtain ⟨bk2, off2, hp2, hb2, hcc⟩ := HK.out.resolve_left (fun e => by rw [e] at hk2; simp at hk2)
          have hcell : ∀ (j : Nat) (u : Value), q.cells[j]? = some u → wr.cell? ⟨bk2, off2 + k * 4 + j, none⟩ = some u := fun j u hj => by rw [Nat.add_assoc]; exact cell_chg Cn (hcc k q hq j u hj) (fun x => x)
          have d0 : wr.cell? ⟨bk2, off2 + k * 4, none⟩ = some (.int .i64 q.kind) := hcell 0 _ rfl
          have d1 : wr.cell? ⟨bk2, off2 + k * 4 + 1, none⟩ = some (.int .u64 (q.obj : Int)) := hcell 1 _ rfl
          have d2 : wr.cell? ⟨bk2, off2 + k * 4 + 2, none⟩ = some (.int .u64 (q.a : Int)) := hcell 2 _ rfl
          have d3 : wr.cell? ⟨bk2, off2 + k * 4 + 3, none⟩ = some (.int .u64 (q.b : Int)) := hcell 3 _ rfl
          have e1 : ((q.obj : Int).tmod 3) = ((q.obj % 3 : Nat) : Int) := by rw [Int.tmod_eq_emod_of_nonneg (by omega)]; omega
          obtain ⟨o, hoo⟩ : ∃ o, o = 2 + q.obj % 3 := ⟨_, rfl⟩
          have e2 : IntKind.u64.wrap (2 + ((q.obj % 3 : Nat) : Int)) = (o : Int) := by rw [IntKind.wrap_u64]; omega
          have e3 : 2 + (q.obj : Int) % 3 = (o : Int) := by omega
          have e4 : IntKind.u64.wrap (2 + (q.obj : Int) % 3) = (o : Int) := by rw [IntKind.wrap_u64]; omega
          have HQ : Hid (q.pl = ⟨q.kind, o, q.a, q.b⟩) := by show q.pl = _; rw [hoo]; rfl
          have HT2 : Hid ((t.ks.take (k + 1)).map CallV.pl = (t.ks.take k).map CallV.pl ++ [q.pl]) := by show _ = _; rw [List.take_add_one, hq]; simp
          have hm : k + 1 ≤ maxLen := by unfold maxLen; omega
          have hby : (k + 1) * 32 ≤ 140737488355328 := by omega
          rw [hp2] at hc2
          clear hcell hcc hq hp2 hb2 Cn hoo e4
          have HRo : Hid (wr.ownsRow 0 50 4 (.slice p7 k c7) k (((t.ks.take k).map CallV.pl).flatMap CallV.cells)) := by have z := HP.out.own; rw [elen] at z; exact z
          go_wp2_with (at_builtin; refine wpList_append_own_at _ rfl _ _ 51 rfl 0 50 j0 (.agg #[.int .i64 0, .int .u64 0, .int .u64 0, .int .u64 0]) 4 32 Try.underlying51 hj hy0 hy1 hy2 rfl (by decide) (.slice p7 k c7) k _ rfl ((HRo.out.alloc _).alloc _) ⟨wr.heap.size + 1, 0, none⟩ 1 1 [.int .i64 q.kind, .int .u64 (o : Int), .int .u64 (q.a : Int), .int .u64 (q.b : Int)] rfl rfl (fun j u hj => cells_new _ _ (by simp) _ _ j u (by simpa using hj)) (by simp [Value.oneCell']) hm hby (Nat.zero_le _) ?_; intro v' w3 r1 r2 r3 r4; obtain ⟨g', c', rfl⟩ := slice_pos r1 (Nat.succ_pos _); have R1 := keepH r1; have R2 := keepH r2; have R4 := keepH r4; clear r1 r2 r3 r4)
          refine ⟨⟨k + 1, by omega, by simp, ?_⟩, by simp [intOf]; omega⟩
          rw [HT2.out, HQ.out]
          exact HP.out.app (((Chg.refl (fun _ => False) wr).alloc _).alloc _) (by rw [elen]; exact R1.out) R2.out R4.out
        · have t2 : ¬ (k : Int) < (t.ks.length : Int) := by omega
          have ek : k = t.ks.length := by omega
          subst ek
          have hm : R.length + 1 ≤ maxLen := by unfold maxLen; omega
          have hby : (R.length + 1) * 24 ≤ 140737488355328 := by omega
          have HRo := keepH (HB0.out.quiet HP.out.chg).own
          clear Cn
          go_wp2_with (at_builtin; refine wpList_append_own_at _ rfl _ _ 22 rfl 0 51 i0 (.slice none 0 0) 1 24 Try.underlying22 hi hz0 hz1 hz2 rfl (by decide) (.slice p5 R.length c5) R.length _ rfl (HRo.out.alloc _) ⟨wr.heap.size, 0, none⟩ 1 1 [.slice p7 t.ks.length c7] rfl rfl (fun j u hj => cells_new _ _ (by simp) _ _ j u (by simpa using hj)) (by simp [Value.oneCell']) hm hby (Nat.zero_le _) ?_; intro v' w3 r1 r2 r3 r4; obtain ⟨g', c', rfl⟩ := slice_pos r1 (Nat.succ_pos _); have R1 := keepH r1; have R2 := keepH r2; have R4 := keepH r4; clear r1 r2 r3 r4)
          refine ⟨⟨R.length + 1, R ++ [⟨p7, c7, (t.ks.take t.ks.length).map CallV.pl⟩], by omega, by simp, by simp, ?_, ?_⟩, by simp [intOf]; omega⟩
          · exact HP.out.close HB0.out (by rw [elen]) R1.out R2.out R4.out
          · show _ = _
            rw [List.map_append, HM.out, List.take_add_one, HTt.out]
            simp
    · have t1 : ¬ (R.length : Int) < (L.length : Int) := by omega
      go_wp2_with fail
      go_ret
      refine ⟨p5, c5, R, rfl, HB.out, ?_⟩
      have e : R.length = L.length := by omega
      have z := HM.out
      rw [e, List.take_length] at z
      exact z
end Go.Proofs.Ytadbgmcfjemkeaa
