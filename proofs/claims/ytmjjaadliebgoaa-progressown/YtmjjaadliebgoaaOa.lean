/- What a result holds: calls, accesses, steps; the step of an access. -/
import Derived.Test.YtmjjaadliebgoaaPe
import Derived.Deep.MidRow
import Derived.BigQuiet
namespace Go.Proofs.Ytmjjaadliebgoaa
open Go.RowKit
set_option linter.unusedVariables false

def IReads (W : World) (p : Option Addr) (xs : List Int) : Prop :=
  xs = [] ∨ ∃ bk off, p = some ⟨bk, off, none⟩ ∧ bk < W.heap.size ∧ ∀ (i : Nat) x, xs[i]? = some x → W.cell? ⟨bk, off + i, none⟩ = some (.int .i64 x)
theorem IReads.get {W : World} {p : Option Addr} {xs : List Int} (h : IReads W p xs) (i : Nat) (x : Int) (hx : xs[i]? = some x) : ∃ bk off, p = some ⟨bk, off, none⟩ ∧ bk < W.heap.size ∧ W.cell? ⟨bk, off + i, none⟩ = some (.int .i64 x) := by
  rcases h with rfl | ⟨bk, off, rfl, hb, h⟩
  · simp at hx
  · exact ⟨bk, off, rfl, hb, h i x hx⟩
theorem cell_chg {W X : World} {bk off : Nat} (hc : Chg (fun _ => False) W X) (hb : bk < W.heap.size) : X.cell? ⟨bk, off, none⟩ = W.cell? ⟨bk, off, none⟩ := by
  have e := hc.block bk hb (fun x => x)
  simp only [World.cell?, e]
theorem IReads.chg {W X : World} {p : Option Addr} {xs : List Int} (h : IReads W p xs) (hc : Chg (fun _ => False) W X) : IReads X p xs := by
  rcases h with rfl | ⟨bk, off, rfl, hb, h⟩
  · exact .inl rfl
  · exact .inr ⟨bk, off, rfl, Nat.lt_of_lt_of_le hb hc.size, fun i x hx => (cell_chg hc hb).trans (h i x hx)⟩

/-- A call's cells. -/
structure DidA where
  th : Int
  ix : Int
  fr : Int
  tz : Int
  kd : Int
  ke : Int
  va : Int
  ol : Int
  hn : Int
  se : Bool
  rt : Int
  ri : Int
  kp : Option Addr
  kn : Nat
  kc : Nat
  lo : Int
  hi : Int
  er : Int
  fo : Bool
  av : Int
  dn : Bool
  ah : Int
  pp : Option Addr
  pn : Nat
  pc : Nat
  co : Int
def DidA.cells (d : DidA) : List Value := [.int .i64 d.th, .int .i64 d.ix, .int .i64 d.fr, .int .i64 d.tz, .int .u8 d.kd, .int .u64 d.ke, .int .u64 d.va, .int .u64 d.ol, .int .u64 d.hn, .bool d.se, .int .i64 d.rt, .int .i64 d.ri, .slice d.kp d.kn d.kc, .int .u64 d.lo, .int .u64 d.hi,
  .int .i64 d.er, .bool d.fo, .int .u64 d.av, .bool d.dn, .int .u64 d.ah, .slice d.pp d.pn d.pc, .int .u64 d.co]
/-- An access's cells. -/
structure AccA where
  th : Int
  kd : Int
  ad : Int
  a : Int
  b : Int
  vp : Option Addr
  vn : Nat
  vc : Nat
  go : Int
  ok : Bool
def AccA.cells (x : AccA) : List Value := [.int .i64 x.th, .int .u8 x.kd, .int .u64 x.ad, .int .u64 x.a, .int .u64 x.b, .slice x.vp x.vn x.vc, .int .u64 x.go, .bool x.ok]
def RReads (W : World) (p : Option Addr) (s : Nat) (l : List (List Value)) : Prop :=
  l = [] ∨ ∃ bk off, p = some ⟨bk, off, none⟩ ∧ bk < W.heap.size ∧ ∀ (i : Nat) c, l[i]? = some c → W.rangeAt bk (off + i * s) c
theorem RReads.get {W : World} {p : Option Addr} {s : Nat} {l : List (List Value)} (h : RReads W p s l) (i : Nat) (c : List Value) (hx : l[i]? = some c) : ∃ bk off, p = some ⟨bk, off, none⟩ ∧ bk < W.heap.size ∧ W.rangeAt bk (off + i * s) c := by
  rcases h with rfl | ⟨bk, off, rfl, hb, h⟩
  · simp at hx
  · exact ⟨bk, off, rfl, hb, h i c hx⟩
theorem RReads.chg {W X : World} {p : Option Addr} {s : Nat} {l : List (List Value)} (h : RReads W p s l) (hc : Chg (fun _ => False) W X) : RReads X p s l := by
  rcases h with rfl | ⟨bk, off, rfl, hb, h⟩
  · exact .inl rfl
  · exact .inr ⟨bk, off, rfl, Nat.lt_of_lt_of_le hb hc.size, fun i c hx j v hv => (cell_chg hc hb).trans (h i c hx j v hv)⟩
/-- A result. -/
structure ResA where
  ds : List DidA
  ts : List AccA
  ss : List Int
  pd : Option Addr
  cd : Nat
  pt : Option Addr
  ct : Nat
  ps : Option Addr
  cs : Nat
def ResA.cells (r : ResA) : List Value := [.slice r.pd r.ds.length r.cd, .slice r.pt r.ts.length r.ct, .slice r.ps r.ss.length r.cs]
structure ResA.At (r : ResA) (W : World) : Prop where
  ds : RReads W r.pd 22 (r.ds.map DidA.cells)
  ts : RReads W r.pt 8 (r.ts.map AccA.cells)
  ss : IReads W r.ps r.ss
  nd : r.ds.length ≤ 1099511627776
  nt : r.ts.length ≤ 2199023255552
  ns : r.ss.length ≤ 35184372088832
  wd : ∀ d ∈ r.ds, (Lit.int .i64 d.tz).wf = true
  ws : ∀ x ∈ r.ss, (Lit.int .i64 x).wf = true
  wt : ∀ x ∈ r.ts, (Lit.int .i64 x.th).wf = true
  wh : ∀ d ∈ r.ds, (Lit.int .i64 d.th).wf = true
theorem ResA.At.chg {r : ResA} {W X : World} (h : r.At W) (c : Chg (fun _ => False) W X) : r.At X := ⟨h.ds.chg c, h.ts.chg c, h.ss.chg c, h.nd, h.nt, h.ns, h.wd, h.ws, h.wt, h.wh⟩
def stp (ss : List Int) (i : Nat) : Int := (ss[i]?).getD (-1)

set_option maxRecDepth 100000 in
theorem p_step (r : ResA) (i : Nat) (W : World) (h : r.At W) (hi : i ≤ 2199023255552) : Calls Try.prog 12 #[.agg r.cells.toArray, .int .i64 (i : Int)] W fun e w => e = .returned (.int .i64 (stp r.ss i)) ∧ Chg (fun _ => False) W w := by
  obtain ⟨_, _, hs, _, _, hn, _, _, _, _⟩ := h
  unfold ResA.cells stp
  by_cases c : i < r.ss.length
  · obtain ⟨x, hx⟩ : ∃ x, r.ss[i]? = some x := ⟨r.ss[i], List.getElem?_eq_getElem c⟩
    obtain ⟨bk, off, e, hb, c0⟩ := hs.get i x hx
    rw [e, hx]
    have c1 : ∀ o, (W.alloc o).cell? ⟨bk, off + i, none⟩ = some (.int .i64 x) := fun o => (cell_chg ((Chg.refl _ _).alloc _) hb).trans c0
    have t : ¬ (r.ss.length : Int) ≤ (i : Int) := by omega
    obtain ⟨n, hn'⟩ : ∃ n, n = r.ss.length := ⟨_, rfl⟩
    rw [← hn'] at t c hn ⊢
    have ht := keepH hn'
    clear hn' hs hx c0
    go_enter Try.func12, Try.ntmps12
    go_wp2_with fail
    go_ret
    exact ⟨by simp, (Chg.refl _ _).alloc _⟩
  · have e : r.ss[i]? = none := List.getElem?_eq_none (by omega)
    rw [e]
    have t : (r.ss.length : Int) ≤ (i : Int) := by omega
    clear hs
    go_enter Try.func12, Try.ntmps12
    go_wp2_with fail
    go_ret
    exact ⟨by simp, (Chg.refl _ _).alloc _⟩
set_option maxRecDepth 100000 in
theorem r_step (r : ResA) (i : Nat) (W : World) (h : r.At W) (hi : i ≤ 2199023255552) : Calls Try.prog 15 #[.agg r.cells.toArray, .int .i64 (i : Int)] W fun e w => e = .returned (.int .i64 (stp r.ss i)) ∧ Chg (fun _ => False) W w := by
  obtain ⟨_, _, hs, _, _, hn, _, _, _, _⟩ := h
  unfold ResA.cells stp
  by_cases c : i < r.ss.length
  · obtain ⟨x, hx⟩ : ∃ x, r.ss[i]? = some x := ⟨r.ss[i], List.getElem?_eq_getElem c⟩
    obtain ⟨bk, off, e, hb, c0⟩ := hs.get i x hx
    rw [e, hx]
    have c1 : ∀ o, (W.alloc o).cell? ⟨bk, off + i, none⟩ = some (.int .i64 x) := fun o => (cell_chg ((Chg.refl _ _).alloc _) hb).trans c0
    have t : (i : Int) < (r.ss.length : Int) := by omega
    obtain ⟨n, hn'⟩ : ∃ n, n = r.ss.length := ⟨_, rfl⟩
    rw [← hn'] at t c hn ⊢
    have ht := keepH hn'
    clear hn' hs hx c0
    go_enter Try.func15, Try.ntmps15
    go_wp2_with fail
    go_ret
    exact ⟨by simp, (Chg.refl _ _).alloc _⟩
  · have e : r.ss[i]? = none := List.getElem?_eq_none (by omega)
    rw [e]
    have t : ¬ (i : Int) < (r.ss.length : Int) := by omega
    clear hs
    go_enter Try.func15, Try.ntmps15
    go_wp2_with fail
    go_ret
    exact ⟨by simp, (Chg.refl _ _).alloc _⟩
set_option maxRecDepth 100000 in
theorem p_returned (d : DidA) (W : World) : Calls Try.prog 16 #[.agg d.cells.toArray] W fun e w => e = .returned (.bool (decide (0 ≤ d.tz))) ∧ Chg (fun _ => False) W w := by
  unfold DidA.cells
  go_enter Try.func16, Try.ntmps16
  go_wp2_with fail
  go_ret
  exact ⟨by simp, (Chg.refl _ _).alloc _⟩
set_option maxRecDepth 100000 in
theorem l_most (a b : Int) (W : World) : Calls Try.prog 18 #[.int .i64 a, .int .i64 b] W fun e w => e = .returned (.int .i64 (max a b)) ∧ w = W := by
  by_cases c : b < a
  · go_enter Try.func18, Try.ntmps18
    go_wp2_with fail
    go_ret
    exact ⟨by rw [Int.max_eq_left (by omega)]; simp, rfl⟩
  · go_enter Try.func18, Try.ntmps18
    go_wp2_with fail
    go_ret
    exact ⟨by rw [Int.max_eq_right (by omega)]; simp, rfl⟩
end Go.Proofs.Ytmjjaadliebgoaa
