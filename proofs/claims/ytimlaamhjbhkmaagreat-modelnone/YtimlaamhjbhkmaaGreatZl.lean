/- ModelNone: the whole walk. -/
import Derived.Test.YtimlaamhjbhkmaaGreatZk
namespace Go.Proofs.YtimlaamhjbhkmaaGreat
open Go.RowKit
set_option linter.unusedVariables false

theorem CallX.Ok.chg {W W' : World} {x : CallX} (h : x.Ok W) (c : Chg (fun _ => False) W W') : x.Ok W' := ⟨h.w6, h.w7, h.ks.chg c (fun _ _ _ x => x), h.kl, h.ps.chg c, h.pl⟩
theorem CallsAtX.get {W wr : World} {p : Option Addr} {l : List CallX} (h : CallsAtX W p l) (c : Chg (fun _ => False) W wr) {i : Nat} {y : CallX} (hy : l[i]? = some y) : ∃ bk off, p = some ⟨bk, off, none⟩ ∧ y.Ok wr ∧ ∀ j v, y.cs[j]? = some v → wr.cell? ⟨bk, off + i * 20 + j, none⟩ = some v := by
  rcases h with rfl | ⟨bk, off, rfl, hb, h⟩
  · simp at hy
  · obtain ⟨h1, h2⟩ := h i y hy
    exact ⟨bk, off, rfl, h1.chg c, fun j v hj => cell_chg c (h2 j v hj) (fun x => x)⟩
theorem IsB.chg {W W' : World} {b : Nat} (h : IsB W b) (c : Chg (fun _ => False) W W') : IsB W' b := (c.block _ (lt_of h) (fun x => x)).trans h
theorem call_any {W : World} {x : CallX} (hx : x.Ok W) {b : Nat} (hb : IsB W b) : Calls Tryz.prog 5 #[.pointer (some ⟨b, 0, none⟩), .agg #[.bool x.tk, .int .u8 x.kd, .int .u64 (x.k : Int), .int .u64 (x.v : Int), .int .u64 (x.od : Int), .int .u64 (x.hk : Int), .bool x.r5, .int .i64 x.r6, .int .i64 x.r7, .slice x.ksp x.ks.length x.ksc, .int .u64 (x.lo : Int), .int .u64 (x.hi : Int), .int .i64 x.er, .bool x.fo, .int .u64 (x.va : Int), .bool x.dn, .int .u64 (x.ah : Int), .slice x.lp x.l.length x.lc, .int .u64 (x.co : Int), .int .u64 (x.hn : Int)]] W fun e W' => e = .returned (.bool true) ∧ Chg (fun _ => False) W W' := by
  cases h : x.tk with
  | true => exact call_take hx.w6 hx.w7 hx.ks hx.kl hx.ps hx.pl hb
  | false => exact call_do hx.w6 hx.w7 hx.ks hx.kl hx.ps hx.pl hb
set_option maxRecDepth 100000 in
theorem new_1 (W : World) : Calls Tryz.prog 6 #[.int .i64 1] W fun e W' => e = .returned (.tuple #[.pointer (some ⟨W.heap.size + 2, 0, none⟩), .int .i64 0]) ∧ Chg (fun _ => False) W W' := by
  have hmm := @run_makeMap Tryz.prog
  go_enter Tryz.func6, Tryz.ntmps6
  go_wp2_with fail
  go_ret2
  exact ⟨by simp, (((Chg.refl _ _).alloc _).alloc _).alloc _⟩
theorem cell_b {W : World} {b : Nat} (h : IsB W b) : W.cell? ⟨b, 0, none⟩ = some (.pointer none) := cell_of h 0
set_option maxRecDepth 100000 in
set_option maxHeartbeats 8000000 in
theorem none_walk (p : Option Addr) (c : Nat) (l : List CallX) (W : World) (hO : CallsAtX W p l) (hl : l.length ≤ 2000000000000) :
    Calls Tryz.prog 3 #[.slice p l.length c] W fun e W' => e = .returned (.bool true) ∧ Chg (fun _ => False) W W' := by
  have HO := keepH hO
  clear hO
  go_enter Tryz.func3, Tryz.ntmps3
  go_wp2_with fail
  refine (live_06 W).mono ?_
  rintro e w1 ⟨rfl, C1⟩
  obtain ⟨b, hb⟩ : ∃ b, b = w1.heap.size := ⟨_, rfl⟩
  obtain ⟨w2, hw2⟩ : ∃ w2, w2 = w1.alloc (.cells #[.pointer none, .pointer none] 28) := ⟨_, rfl⟩
  have HB : Hid (IsB w2 b) := by rw [hb, hw2]; exact heap_alloc_new _ _
  have HC2 : Hid (Chg (fun _ => False) W w2) := by rw [hw2]; exact C1.alloc _
  clear C1
  go_wp2_with fail
  rw [← hw2, ← hb]
  clear hb hw2
  skip
  go_loopw [4] (fun s wr => ∃ i : Nat, i ≤ l.length ∧ s = .int .i64 (i : Int) ∧ Hid (Chg (fun _ => False) W wr ∧ IsB wr b)) (fun s _ => l.length - (intOf s).toNat)
  case atStart => exact ⟨0, Nat.zero_le _, rfl, HC2.out, HB.out⟩
  case round =>
    obtain ⟨i, hil, rfl, HX⟩ := hrel
    by_cases hlt : i < l.length
    · have q1 : (i : Int) < (l.length : Int) := by omega
      obtain ⟨x, hx⟩ : ∃ x, l[i]? = some x := ⟨l[i], List.getElem?_eq_getElem hlt⟩
      obtain ⟨bk, off, rfl, hok, hcs⟩ := HO.out.get HX.out.1 hx
      have HK := keepH (call_any hok HX.out.2)
      have HR : Hid (wr.rangeAt bk (off + i * 20) x.cs) := hcs
      clear hx hok hcs
      go_upto_region 7 with fail
      iterate 13 go_step
      skip
      refine wpList_load_mid rfl _ _ rfl bk (off + i * 20) rfl x.cs _ HR.out Tryz.underlying42 rfl (by kernel_rfl) ?_
      (try simp only [Act.put]); (try simp only [List.setIfInBounds_toArray]); (repeat (first | simp only [List.set_cons_succ] | simp only [List.set_cons_zero]))
      rw [show x.cs.toArray = #[.bool x.tk, .int .u8 x.kd, .int .u64 (x.k : Int), .int .u64 (x.v : Int), .int .u64 (x.od : Int), .int .u64 (x.hk : Int), .bool x.r5, .int .i64 x.r6, .int .i64 x.r7, .slice x.ksp x.ks.length x.ksc, .int .u64 (x.lo : Int), .int .u64 (x.hi : Int), .int .i64 x.er, .bool x.fo, .int .u64 (x.va : Int), .bool x.dn, .int .u64 (x.ah : Int), .slice x.lp x.l.length x.lc, .int .u64 (x.co : Int), .int .u64 (x.hn : Int)] from rfl]
      skip
      go_wp2_with fail
      skip
      refine HK.out.mono ?_
      rintro e w4 ⟨rfl, C4⟩
      have HX4 : Hid (Chg (fun _ => False) W w4 ∧ IsB w4 b) := ⟨ch2 HX.out.1 C4, HX.out.2.chg C4⟩
      clear C4 HK
      go_wp2_with fail
      go_roundw
      case rel => exact ⟨i + 1, by omega, by first | rfl | go_num, HX4⟩
      case measure => exact measN hlt
    · have q1 : ¬ (i : Int) < (l.length : Int) := by omega
      clear hlt
      go_wp2_with fail
      refine (new_1 wr).mono ?_
      rintro e w5 ⟨rfl, C5⟩
      obtain ⟨g, hg⟩ : ∃ g, g = wr.heap.size + 2 := ⟨_, rfl⟩
      rw [← hg]
      clear hg
      have HX5 : Hid (Chg (fun _ => False) W w5 ∧ IsB w5 b) := ⟨ch2 HX.out.1 C5, HX.out.2.chg C5⟩
      clear C5 HX
      have hS : ∀ w, Chg (fun _ => False) w5 w → w.cell? ⟨b, 0, none⟩ = some (.pointer none) := fun w cw => cell_b (HX5.out.2.chg cw)
      go_wp2_with fail
      refine (alike_nil HX5.out.2).mono ?_
      rintro e z1 ⟨rfl, c1⟩
      have d1 := hS z1 c1
      go_wp2_with fail
      refine (nil_fork z1).mono ?_
      rintro e z2 ⟨rfl, c2⟩
      have C2 := ch2 c1 c2
      have d2 := hS z2 C2
      clear c2 d1
      go_wp2_with fail
      refine (same_nn z2).mono ?_
      rintro e z3 ⟨rfl, c3⟩
      have C3 := ch2 C2 c3
      have d3 := hS z3 C3
      clear c3 d2
      go_wp2_with fail
      refine (same_np g z3).mono ?_
      rintro e z4 ⟨rfl, c4⟩
      have C4 := ch2 C3 c4
      clear c4 d3
      go_wp2_with fail
      refine (same_pn g z4).mono ?_
      rintro e z5 ⟨rfl, c5⟩
      have hz7 := ch2 HX5.out.1 (ch2 C4 c5)
      clear c5
      go_wp2_with fail
      go_ret
      exact ⟨by simp, hz7⟩
end Go.Proofs.YtimlaamhjbhkmaaGreat
