/- Calls, and the procs that are begun of them. -/
import Derived.Test.YtadbgmcfjemkeaaGx
namespace Go.Proofs.Ytadbgmcfjemkeaa
open Go.RowKit Go.Shelf
set_option linter.unusedVariables false

structure CallV where
  kind : Int
  obj : Nat
  a : Nat
  b : Nat
def CallV.cells (k : CallV) : List Value := [.int .i64 k.kind, .int .u64 (k.obj : Int), .int .u64 (k.a : Int), .int .u64 (k.b : Int)]
def CallV.start (k : CallV) : VP :=
  if k.kind = 0 then .inl ⟨1, k.obj, ⟨⟨0, 0, 0, 0, 0⟩, 0, 0⟩⟩
  else if k.kind = 1 then .inr (.inl ⟨1, k.obj, ⟨⟨⟨0, 0, 0, 0, 0⟩, 0, 0⟩, k.a, k.b, 0, 0, false, 0⟩⟩)
  else if k.kind = 2 then .inr (.inr (.inl ⟨1, k.obj, ⟨⟨0, 0, 0, 0, 0⟩, k.a, 0, 0⟩⟩))
  else .inr (.inr (.inr ⟨1, k.a, 0, 0, 0, false⟩))
structure CallV.ok (k : CallV) : Prop where
  obj : k.obj < 18446744073709551616
  a : k.a < 18446744073709551616
  b : k.b < 18446744073709551616
theorem CallV.start_ok {k : CallV} (h : k.ok) : vcK.ok 0 k.start := by
  unfold CallV.start
  split
  · exact ⟨⟨.inl ⟨rfl, .inl rfl⟩, by simp, by simp⟩, by simp, h.obj⟩
  · split
    · exact ⟨⟨.inl ⟨rfl, .inl ⟨rfl, .inl rfl⟩⟩, by simp, by simp, h.b, by simp⟩, by simp, h.obj⟩
    · split
      · exact ⟨⟨.inl ⟨rfl, .inl rfl⟩, by simp, by simp⟩, by simp, h.obj⟩
      · exact ⟨.inl rfl, rfl, rfl, h.a, by simp⟩
theorem CallV.start_pp {k : CallV} (h : isO k.obj) (next : Nat) (cs : List Nat) (ch : Nat → List Nat) (own : Nat → Nat × Nat) (ij : Nat × Nat) : VP.pp next cs ch own ij k.start ∧ VP.on k.start := by
  have rd : ∀ l, RD cs l ⟨⟨0, 0, 0, 0, 0⟩, 0, 0⟩ := fun l => ⟨fun _ => ⟨⟨fun z => by simp at z, fun z => by simp at z⟩, rfl⟩, fun z => by simp at z, fun z => by simp at z, by simp⟩
  unfold CallV.start
  split
  · exact ⟨⟨rfl, h, rd _⟩, .inl ⟨rfl, .inl rfl⟩⟩
  · split
    · exact ⟨⟨rfl, h, fun _ => rd _, fun z => by simp at z, fun z => by simp at z, fun z => by simp at z, fun z => by simp at z, fun _ _ => rfl, fun z => by rcases z with z | ⟨z, _⟩ <;> simp at z⟩, .inl ⟨rfl, .inl ⟨rfl, .inl rfl⟩⟩⟩
    · split
      · exact ⟨⟨rfl, h, fun _ => ⟨fun z => by simp at z, fun z => by simp at z⟩⟩, fun _ => .inl rfl⟩
      · exact ⟨rfl, trivial⟩
/-- What the law keeps of a proc. -/
def prOf : Value → List Value
  | .iface t a => if t = 52 then [.int .i64 0, a, .pointer none, .pointer none, .pointer none, .pointer none] else if t = 53 then [.int .i64 1, .pointer none, a, .pointer none, .pointer none, .pointer none] else if t = 54 then [.int .i64 2, .pointer none, .pointer none, a, .pointer none, .pointer none] else [.int .i64 3, .pointer none, .pointer none, .pointer none, a, .pointer none]
  | _ => []
/-- A proc that was made, with what it has of its own, all of it new. -/
structure PNew (W X : World) (pv : Value) (s : VP) (D : Nat → Prop) : Prop where
  h : vcK.H X D pv s
  new : ∀ k, D k → W.heap.size ≤ k
  one : pv.oneCell' = true
  chg : Chg (fun _ => False) W X
  ifc : ∃ T p, pv = .iface T (.pointer (some ⟨p, 0, none⟩))
theorem PNew.fin {W X Y : World} {pv : Value} {s : VP} {D : Nat → Prop} {g : Nat} (h : PNew W X pv s D) (c : Chg (fun k => k = g) X Y) (hg : W.heap.size ≤ g) (hn : ¬ D g) : PNew W Y pv s D :=
  ⟨vcK.kept h.h (fun k e => c.block k (vcK.lt h.h e) (fun z => hn (z ▸ e))), h.new, h.one, h.chg.trans c (fun _ _ x => x) (fun i hi e => by omega), h.ifc⟩
theorem six_set (X : World) (g : Nat) (v0 v1 v2 v3 v4 v5 : Value) : Chg (fun k => k = g) X ((((((X.setCell ⟨g, 0, none⟩ v0).setCell ⟨g, 1, none⟩ v1).setCell ⟨g, 2, none⟩ v2).setCell ⟨g, 3, none⟩ v3).setCell ⟨g, 4, none⟩ v4).setCell ⟨g, 5, none⟩ v5) :=
  ((((((Chg.refl (fun k => k = g) X).setCell (p := ⟨g, 0, none⟩) (fun _ => rfl) v0).setCell (p := ⟨g, 1, none⟩) (fun _ => rfl) v1).setCell (p := ⟨g, 2, none⟩) (fun _ => rfl) v2).setCell (p := ⟨g, 3, none⟩) (fun _ => rfl) v3).setCell (p := ⟨g, 4, none⟩) (fun _ => rfl) v4).setCell (p := ⟨g, 5, none⟩) (fun _ => rfl) v5
set_option maxRecDepth 100000 in
set_option maxHeartbeats 2000000 in
theorem v_beginE (kind : Int) (obj a b : Nat) (hk : 0 ≤ kind ∧ kind ≤ 3) (W : World) (s : VP)
    (hs : s = if kind = 0 then .inl ⟨1, obj, ⟨⟨0, 0, 0, 0, 0⟩, 0, 0⟩⟩ else if kind = 1 then .inr (.inl ⟨1, obj, ⟨⟨⟨0, 0, 0, 0, 0⟩, 0, 0⟩, a, b, 0, 0, false, 0⟩⟩) else if kind = 2 then .inr (.inr (.inl ⟨1, obj, ⟨⟨0, 0, 0, 0, 0⟩, a, 0, 0⟩⟩)) else .inr (.inr (.inr ⟨1, a, 0, 0, 0, false⟩))) :
    Calls Try.prog 29 #[.int .u64 1, .agg #[.int .i64 kind, .int .u64 (obj : Int), .int .u64 (a : Int), .int .u64 (b : Int)]] W fun e W' => ∃ pv D, e = .returned (.tuple #[.agg (prOf pv).toArray, pv]) ∧ PNew W W' pv s D := by
  obtain ⟨W0, hW0⟩ : ∃ W0, W0 = (W.alloc (.cells #[.int .i64 kind, .int .u64 (obj : Int), .int .u64 (a : Int), .int .u64 (b : Int)] 50)).alloc (.cells #[.int .i64 0, .pointer none, .pointer none, .pointer none, .pointer none, .pointer none] 58) := ⟨_, rfl⟩
  have C0 : Hid (Chg (fun _ => False) W W0) := by rw [hW0]; exact ((Chg.refl _ _).alloc _).alloc _
  have sz : Hid (W0.heap.size = W.heap.size + 2) := by rw [hW0]; simp [Hid]
  have hb0 : W0.heap[W.heap.size + 1]? = some (.cells #[.int .i64 0, .pointer none, .pointer none, .pointer none, .pointer none, .pointer none] 58 (0, 0)) := by
    have h := heap_alloc_new (W.alloc (.cells #[.int .i64 kind, .int .u64 (obj : Int), .int .u64 (a : Int), .int .u64 (b : Int)] 50)) (.cells #[.int .i64 0, .pointer none, .pointer none, .pointer none, .pointer none, .pointer none] 58)
    rw [World.size_alloc] at h
    rw [hW0]
    exact h
  have HB0 := keepH hb0
  clear hb0
  by_cases k0 : kind = 0
  · have t0 : (kind == 0) = true := by simp [k0]
    rw [if_pos k0] at hs
    subst hs k0
    go_enter Try.func29, Try.ntmps29
    go_wp2_with fail
    rw [← hW0]
    refine (rd_new 1 obj _).mono ?_
    rintro e w1 ⟨p, hp, rfl, B, C, hz⟩
    have HB := keepH B
    have HC := keepH C
    have HP := keepH hp
    clear B C hp
    have hb : w1.heap[W.heap.size + 1]? = some (.cells #[.int .i64 0, .pointer none, .pointer none, .pointer none, .pointer none, .pointer none] 58 (0, 0)) := (HC.out.block _ (by have := sz.out; omega) (fun x => x)).trans HB0.out
    have c0 := cell_of hb 0
    have c1 := cell_of hb 1
    have c2 := cell_of hb 2
    have c3 := cell_of hb 3
    have c4 := cell_of hb 4
    have c5 := cell_of hb 5
    have f0 := free_of hb 0
    have f1 := free_of hb 1
    have f2 := free_of hb 2
    have f3 := free_of hb 3
    have f4 := free_of hb 4
    have f5 := free_of hb 5
    go_wp2_with fail
    (try simp only [Exit.inBlock, Exit.then])
    have hF := set_of (set_of (set_of (set_of (set_of (set_of hb 0 (.int .i64 0)) 1 (.pointer (some ⟨p, 0, none⟩))) 2 (.pointer none)) 3 (.pointer none)) 4 (.pointer none)) 5 (.pointer none)
    have r0 := cell_of hF 0
    have r1 := cell_of hF 1
    have r2 := cell_of hF 2
    have r3 := cell_of hF 3
    have r4 := cell_of hF 4
    have r5 := cell_of hF 5
    refine bodyPost_ret (v := .tuple #[.agg #[.int .i64 0, .pointer (some ⟨p, 0, none⟩), .pointer none, .pointer none, .pointer none, .pointer none], .iface 52 (.pointer (some ⟨p, 0, none⟩))]) ?_ rfl ?_
    · simp [results, Try.results29, go_sem, r0, r1, r2, r3, r4, r5]
    have := sz.out
    have := HP.out
    refine ⟨.iface 52 (.pointer (some ⟨p, 0, none⟩)), fun k => k = p, rfl, PNew.fin (g := W.heap.size + 1) (X := w1) ⟨⟨p, rfl, ⟨.pointer none, HB.out, Clk.none ⟨_, rfl⟩ (by simp), rfl⟩, fun k e => by omega⟩, fun k e => by omega, rfl, C0.out.trans HC.out (fun _ _ x => x) (fun _ _ x => x), ⟨_, _, rfl⟩⟩ (six_set _ _ _ _ _ _ _ _) (by omega) (fun e => by omega)⟩
  · rw [if_neg k0] at hs
    have t0 : (kind == 0) = false := by simp [k0]
    by_cases k1 : kind = 1
    · have t1 : (kind == 1) = true := by simp [k1]
      rw [if_pos k1] at hs
      subst hs k1
      go_enter Try.func29, Try.ntmps29
      go_wp2_with fail
      rw [← hW0]
      refine (cs_new 1 obj a b _).mono ?_
      rintro e w1 ⟨p, hp, rfl, B, C, hz⟩
      have HB := keepH B
      have HC := keepH C
      have HP := keepH hp
      clear B C hp
      have hb : w1.heap[W.heap.size + 1]? = some (.cells #[.int .i64 0, .pointer none, .pointer none, .pointer none, .pointer none, .pointer none] 58 (0, 0)) := (HC.out.block _ (by have := sz.out; omega) (fun x => x)).trans HB0.out
      have c0 := cell_of hb 0
      have c1 := cell_of hb 1
      have c2 := cell_of hb 2
      have c3 := cell_of hb 3
      have c4 := cell_of hb 4
      have c5 := cell_of hb 5
      have f0 := free_of hb 0
      have f1 := free_of hb 1
      have f2 := free_of hb 2
      have f3 := free_of hb 3
      have f4 := free_of hb 4
      have f5 := free_of hb 5
      go_wp2_with fail
      (try simp only [Exit.inBlock, Exit.then])
      have hF := set_of (set_of (set_of (set_of (set_of (set_of hb 0 (.int .i64 1)) 1 (.pointer none)) 2 (.pointer (some ⟨p, 0, none⟩))) 3 (.pointer none)) 4 (.pointer none)) 5 (.pointer none)
      have r0 := cell_of hF 0
      have r1 := cell_of hF 1
      have r2 := cell_of hF 2
      have r3 := cell_of hF 3
      have r4 := cell_of hF 4
      have r5 := cell_of hF 5
      refine bodyPost_ret (v := .tuple #[.agg #[.int .i64 1, .pointer none, .pointer (some ⟨p, 0, none⟩), .pointer none, .pointer none, .pointer none], .iface 53 (.pointer (some ⟨p, 0, none⟩))]) ?_ rfl ?_
      · simp [results, Try.results29, go_sem, r0, r1, r2, r3, r4, r5]
      have := sz.out
      have := HP.out
      refine ⟨.iface 53 (.pointer (some ⟨p, 0, none⟩)), fun k => k = p, rfl, PNew.fin (g := W.heap.size + 1) (X := w1) ⟨⟨p, rfl, ⟨.pointer none, HB.out, Clk.none ⟨_, rfl⟩ (by simp), rfl⟩, fun k e => by omega⟩, fun k e => by omega, rfl, C0.out.trans HC.out (fun _ _ x => x) (fun _ _ x => x), ⟨_, _, rfl⟩⟩ (six_set _ _ _ _ _ _ _ _) (by omega) (fun e => by omega)⟩
    · rw [if_neg k1] at hs
      have t1 : (kind == 1) = false := by simp [k1]
      by_cases k2 : kind = 2
      · have t2 : (kind == 2) = true := by simp [k2]
        rw [if_pos k2] at hs
        subst hs k2
        go_enter Try.func29, Try.ntmps29
        go_wp2_with fail
        rw [← hW0]
        refine (at_new 1 obj a _).mono ?_
        rintro e w1 ⟨p, hp, rfl, B, C, hz⟩
        have HB := keepH B
        have HC := keepH C
        have HP := keepH hp
        clear B C hp
        have hb : w1.heap[W.heap.size + 1]? = some (.cells #[.int .i64 0, .pointer none, .pointer none, .pointer none, .pointer none, .pointer none] 58 (0, 0)) := (HC.out.block _ (by have := sz.out; omega) (fun x => x)).trans HB0.out
        have c0 := cell_of hb 0
        have c1 := cell_of hb 1
        have c2 := cell_of hb 2
        have c3 := cell_of hb 3
        have c4 := cell_of hb 4
        have c5 := cell_of hb 5
        have f0 := free_of hb 0
        have f1 := free_of hb 1
        have f2 := free_of hb 2
        have f3 := free_of hb 3
        have f4 := free_of hb 4
        have f5 := free_of hb 5
        go_wp2_with fail
        (try simp only [Exit.inBlock, Exit.then])
        have hF := set_of (set_of (set_of (set_of (set_of (set_of hb 0 (.int .i64 2)) 1 (.pointer none)) 2 (.pointer none)) 3 (.pointer (some ⟨p, 0, none⟩))) 4 (.pointer none)) 5 (.pointer none)
        have r0 := cell_of hF 0
        have r1 := cell_of hF 1
        have r2 := cell_of hF 2
        have r3 := cell_of hF 3
        have r4 := cell_of hF 4
        have r5 := cell_of hF 5
        refine bodyPost_ret (v := .tuple #[.agg #[.int .i64 2, .pointer none, .pointer none, .pointer (some ⟨p, 0, none⟩), .pointer none, .pointer none], .iface 54 (.pointer (some ⟨p, 0, none⟩))]) ?_ rfl ?_
        · simp [results, Try.results29, go_sem, r0, r1, r2, r3, r4, r5]
        have := sz.out
        have := HP.out
        refine ⟨.iface 54 (.pointer (some ⟨p, 0, none⟩)), fun k => k = p, rfl, PNew.fin (g := W.heap.size + 1) (X := w1) ⟨⟨p, rfl, ⟨.pointer none, HB.out, Clk.none ⟨_, rfl⟩ (by simp), rfl⟩, fun k e => by omega⟩, fun k e => by omega, rfl, C0.out.trans HC.out (fun _ _ x => x) (fun _ _ x => x), ⟨_, _, rfl⟩⟩ (six_set _ _ _ _ _ _ _ _) (by omega) (fun e => by omega)⟩
      · rw [if_neg k2] at hs
        have t2 : (kind == 2) = false := by simp [k2]
        have k3 : kind = 3 := by omega
        have t3 : (kind == 3) = true := by simp [k3]
        subst hs k3
        go_enter Try.func29, Try.ntmps29
        go_wp2_with fail
        rw [← hW0]
        refine (t_new 1 a _).mono ?_
        rintro e w1 ⟨rfl, hw1⟩
        obtain ⟨g, hg⟩ : ∃ g, g = W0.heap.size := ⟨_, rfl⟩
        have HB : Hid (IsTake w1 g 1 a 0 0 0 false) := by rw [hw1, hg]; exact heap_alloc_new _ _
        have HC : Hid (Chg (fun _ => False) W0 w1) := by rw [hw1]; exact (Chg.refl (fun _ => False) _).alloc _
        have HG := keepH hg
        rw [← hg]
        clear hw1 hg
        have hb : w1.heap[W.heap.size + 1]? = some (.cells #[.int .i64 0, .pointer none, .pointer none, .pointer none, .pointer none, .pointer none] 58 (0, 0)) := (HC.out.block _ (by have := sz.out; omega) (fun x => x)).trans HB0.out
        have c0 := cell_of hb 0
        have c1 := cell_of hb 1
        have c2 := cell_of hb 2
        have c3 := cell_of hb 3
        have c4 := cell_of hb 4
        have c5 := cell_of hb 5
        have f0 := free_of hb 0
        have f1 := free_of hb 1
        have f2 := free_of hb 2
        have f3 := free_of hb 3
        have f4 := free_of hb 4
        have f5 := free_of hb 5
        go_wp2_with fail
        (try simp only [Exit.inBlock, Exit.then])
        have hF := set_of (set_of (set_of (set_of (set_of (set_of hb 0 (.int .i64 3)) 1 (.pointer none)) 2 (.pointer none)) 3 (.pointer none)) 4 (.pointer (some ⟨g, 0, none⟩))) 5 (.pointer none)
        have r0 := cell_of hF 0
        have r1 := cell_of hF 1
        have r2 := cell_of hF 2
        have r3 := cell_of hF 3
        have r4 := cell_of hF 4
        have r5 := cell_of hF 5
        refine bodyPost_ret (v := .tuple #[.agg #[.int .i64 3, .pointer none, .pointer none, .pointer none, .pointer (some ⟨g, 0, none⟩), .pointer none], .iface 55 (.pointer (some ⟨g, 0, none⟩))]) ?_ rfl ?_
        · simp [results, Try.results29, go_sem, r0, r1, r2, r3, r4, r5]
        have := sz.out
        have := HG.out
        refine ⟨.iface 55 (.pointer (some ⟨g, 0, none⟩)), fun k => k = g, rfl, PNew.fin (g := W.heap.size + 1) (X := w1) ⟨⟨g, rfl, ⟨rfl, HB.out⟩, fun k e => by have := lt_of HB.out; omega⟩, fun k e => by omega, rfl, C0.out.trans HC.out (fun _ _ x => x) (fun _ _ x => x), ⟨_, _, rfl⟩⟩ (six_set _ _ _ _ _ _ _ _) (by omega) (fun e => by omega)⟩
theorem v_begin (k : CallV) (hk : 0 ≤ k.kind ∧ k.kind ≤ 3) (W : World) :
    Calls Try.prog 29 #[.int .u64 1, .agg k.cells.toArray] W fun e W' => ∃ pv D, e = .returned (.tuple #[.agg (prOf pv).toArray, pv]) ∧ PNew W W' pv k.start D :=
  v_beginE k.kind k.obj k.a k.b hk W k.start rfl
end Go.Proofs.Ytadbgmcfjemkeaa
