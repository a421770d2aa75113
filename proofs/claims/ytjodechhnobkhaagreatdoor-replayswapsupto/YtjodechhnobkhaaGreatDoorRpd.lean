/- right of any access, firstWrong, okWord, kindOf; accesses that came in, or lie in a row. -/
import Derived.Test.YtjodechhnobkhaaGreatDoorRpc
namespace Go.Proofs.YtjodechhnobkhaaGreatDoor
open Go.RowKit
set_option linter.unusedVariables false

set_option maxRecDepth 100000 in
theorem right_no (th : Int) (kind ad a b got n c tb : Nat) (p : Option Addr) (ok : Bool) (W : World) (hk : kind = 0 ∨ 5 < kind) :
    Calls Tryz.prog 50 #[.pointer (some ⟨tb, 0, none⟩), .agg (accC th kind ad a b (.slice p n c) got ok)] W fun e W' => e = .returned (.bool false) ∧ Below W.heap.size W W' := by
  rcases hk with rfl | hk
  · go_enter Tryz.func50, Tryz.ntmps50
    go_wp2_with fail
    go_ret
    exact ⟨rfl, below_alloc _ _⟩
  · have q0 : ¬ (kind : Int) < 1 := by omega
    have q1 : (5 : Int) < (kind : Int) := by omega
    go_enter Tryz.func50, Tryz.ntmps50
    go_wp2_with fail
    go_ret
    exact ⟨rfl, below_alloc _ _⟩
theorem vals_nil {l : List Nat} : l.length = 0 ↔ l = [] := List.length_eq_zero_iff
theorem right_any (x : Ax) (o : x.Ok) (tb : Nat) (p : Option Addr) (c : Nat) (W : World) (hF : IsForms W tb) :
    Calls Tryz.prog 50 #[.pointer (some ⟨tb, 0, none⟩), .agg (accC x.th x.kind x.addr x.a x.b (.slice p x.vals.length c) x.got x.ok)] W fun e W' => e = .returned (.bool (decide (RightA x))) ∧ Below W.heap.size W W' := by
  have o1 := o.addr
  have o2 := o.a
  have o3 := o.b
  have o4 := o.got
  obtain ⟨th, kind, ad, a, b, vals, got, ok⟩ := x
  simp only at o1 o2 o3 o4 ⊢
  by_cases k0 : kind = 0 ∨ 5 < kind
  · refine (right_no th kind ad a b got vals.length c tb p ok W k0).mono ?_
    rintro e W' ⟨rfl, hb⟩
    exact ⟨by rw [show decide (RightA ⟨th, kind, ad, a, b, vals, got, ok⟩) = false from decide_eq_false (fun h => by have := right_kind h; simp only at this; omega)], hb⟩
  · have hk : kind = 1 ∨ kind = 2 ∨ kind = 3 ∨ kind = 4 ∨ kind = 5 := by omega
    rcases hk with rfl | rfl | rfl | rfl | rfl
    · refine (right_1 th ad a b got vals.length c tb p ok W hF o1 o2 o3 o4).mono ?_
      rintro e W' ⟨rfl, hb⟩
      refine ⟨?_, hb⟩
      congr 2
      refine decide_eq_decide.mpr ?_
      simp [RightA]
    · refine (right_2 th ad a b got vals.length c tb p ok W hF o1 o2 o3 o4).mono ?_
      rintro e W' ⟨rfl, hb⟩
      refine ⟨?_, hb⟩
      congr 2
      refine decide_eq_decide.mpr ?_
      simp only [RightA, vals_nil]
      constructor
      · rintro ⟨h1, h2, h3, h4⟩; exact Or.inr (Or.inl ⟨trivial, h1, h3, h2, h4⟩)
      · rintro (h | h | h | h | h)
        · omega
        · exact ⟨h.2.1, h.2.2.2.1, h.2.2.1, h.2.2.2.2⟩
        · omega
        · omega
        · omega
    · refine (right_3 th ad a b got vals.length c tb p ok W hF o1 o2 o3 o4).mono ?_
      rintro e W' ⟨rfl, hb⟩
      refine ⟨?_, hb⟩
      congr 2
      refine decide_eq_decide.mpr ?_
      simp only [RightA, vals_nil]
      constructor
      · rintro ⟨h1, h2⟩; exact Or.inr (Or.inr (Or.inl ⟨trivial, h2, h1⟩))
      · rintro (h | h | h | h | h)
        · omega
        · omega
        · exact ⟨h.2.2, h.2.1⟩
        · omega
        · omega
    · refine (right_4 th ad a b got vals.length c tb p ok W hF o1 o2 o3 o4).mono ?_
      rintro e W' ⟨rfl, hb⟩
      refine ⟨?_, hb⟩
      congr 2
      refine decide_eq_decide.mpr ?_
      simp [RightA]
    · refine (right_5 th ad a b got vals.length c tb p ok W hF o1 o2 o3 o4).mono ?_
      rintro e W' ⟨rfl, hb⟩
      refine ⟨?_, hb⟩
      congr 2
      refine decide_eq_decide.mpr ?_
      simp [RightA]

/-- numbers that came in, or lie in a row -/
def URd (W : World) (p : Option Addr) (xs : List Nat) : Prop :=
  xs = [] ∨ ∃ bk off, p = some ⟨bk, off, none⟩ ∧ bk < W.heap.size ∧ ∀ (i x : Nat), xs[i]? = some x → W.cell? ⟨bk, off + i, none⟩ = some (.int .u64 (x : Int))
theorem URd.get {W : World} {p : Option Addr} {xs : List Nat} (h : URd W p xs) (i x : Nat) (hx : xs[i]? = some x) : ∃ bk off, p = some ⟨bk, off, none⟩ ∧ bk < W.heap.size ∧ W.cell? ⟨bk, off + i, none⟩ = some (.int .u64 (x : Int)) := by
  rcases h with rfl | ⟨bk, off, rfl, hb, h⟩
  · simp at hx
  · exact ⟨bk, off, rfl, hb, h i x hx⟩
theorem URd.on {W X : World} {p : Option Addr} {xs : List Nat} (h : URd W p xs) (hb : Below W.heap.size W X) : URd X p xs := by
  rcases h with rfl | ⟨bk, off, rfl, hl, h⟩
  · exact .inl rfl
  · exact .inr ⟨bk, off, rfl, Nat.lt_of_lt_of_le hl hb.size, fun i x hx => cell_below (h i x hx) hb⟩
/-- accesses that came in, or lie in a row -/
def ARd (W : World) (p : Option Addr) (xs : List Ax) : Prop :=
  xs = [] ∨ ∃ bk off, p = some ⟨bk, off, none⟩ ∧ bk < W.heap.size ∧ ∀ (i : Nat) (x : Ax), xs[i]? = some x → ∃ vp vc, (∀ (j : Nat) u, (accC x.th x.kind x.addr x.a x.b (.slice vp x.vals.length vc) x.got x.ok)[j]? = some u → W.cell? ⟨bk, off + i * 8 + j, none⟩ = some u) ∧ URd W vp x.vals
theorem ARd.get {W : World} {p : Option Addr} {xs : List Ax} (h : ARd W p xs) (i : Nat) (x : Ax) (hx : xs[i]? = some x) : ∃ bk off vp vc, p = some ⟨bk, off, none⟩ ∧ bk < W.heap.size ∧ W.cell? ⟨bk, off + i * 8, none⟩ = some (.int .i64 x.th) ∧ W.cell? ⟨bk, off + i * 8 + 1, none⟩ = some (.int .u8 (x.kind : Int)) ∧ W.cell? ⟨bk, off + i * 8 + 2, none⟩ = some (.int .u64 (x.addr : Int)) ∧ W.cell? ⟨bk, off + i * 8 + 3, none⟩ = some (.int .u64 (x.a : Int)) ∧ W.cell? ⟨bk, off + i * 8 + 4, none⟩ = some (.int .u64 (x.b : Int)) ∧ W.cell? ⟨bk, off + i * 8 + 5, none⟩ = some (.slice vp x.vals.length vc) ∧ W.cell? ⟨bk, off + i * 8 + 6, none⟩ = some (.int .u64 (x.got : Int)) ∧ W.cell? ⟨bk, off + i * 8 + 7, none⟩ = some (.bool x.ok) ∧ URd W vp x.vals := by
  rcases h with rfl | ⟨bk, off, rfl, hb, h⟩
  · simp at hx
  · obtain ⟨vp, vc, hc, hu⟩ := h i x hx
    exact ⟨bk, off, vp, vc, rfl, hb, hc 0 _ rfl, hc 1 _ rfl, hc 2 _ rfl, hc 3 _ rfl, hc 4 _ rfl, hc 5 _ rfl, hc 6 _ rfl, hc 7 _ rfl, hu⟩
theorem ARd.on {W X : World} {p : Option Addr} {xs : List Ax} (h : ARd W p xs) (hb : Below W.heap.size W X) : ARd X p xs := by
  rcases h with rfl | ⟨bk, off, rfl, hl, h⟩
  · exact .inl rfl
  · refine .inr ⟨bk, off, rfl, Nat.lt_of_lt_of_le hl hb.size, fun i x hx => ?_⟩
    obtain ⟨vp, vc, hc, hu⟩ := h i x hx
    exact ⟨vp, vc, fun j u hj => cell_below (hc j u hj) hb, hu.on hb⟩

def wrongI (xs : List Ax) : Nat := xs.findIdx (fun x => !decide (RightA x))
theorem wrongI_at {xs : List Ax} {i : Nat} {x : Ax} (hx : xs[i]? = some x) (hb : ∀ j y, j < i → xs[j]? = some y → RightA y) (hn : ¬ RightA x) : wrongI xs = i := by
  obtain ⟨hi, rfl⟩ := List.getElem?_eq_some_iff.mp hx
  unfold wrongI
  refine (List.findIdx_eq hi).mpr ⟨by simp [hn], fun j hj => ?_⟩
  have := hb j xs[j] hj (List.getElem?_eq_getElem (by omega))
  simp [this]
theorem wrongI_all {xs : List Ax} (hb : ∀ x ∈ xs, RightA x) : wrongI xs = xs.length := by
  unfold wrongI
  refine List.findIdx_eq_length.mpr (fun x hx => ?_)
  simp [hb x hx]
theorem wrongI_le (xs : List Ax) : wrongI xs ≤ xs.length := List.findIdx_le_length
theorem wrongI_lt {xs : List Ax} (h : ¬ ∀ x ∈ xs, RightA x) : wrongI xs < xs.length := by
  rcases Nat.lt_or_ge (wrongI xs) xs.length with q | q
  · exact q
  · exfalso
    have e : wrongI xs = xs.length := Nat.le_antisymm (wrongI_le xs) q
    refine h (fun x hx => ?_)
    have := (List.findIdx_eq_length.mp e) x hx
    simpa using this

set_option maxRecDepth 100000 in
set_option maxHeartbeats 2000000 in
theorem first_wrong (p : Option Addr) (c tb : Nat) (xs : List Ax) (W : World) (h : ARd W p xs) (hok : ∀ x ∈ xs, x.Ok) (hl : xs.length ≤ 1048576) (hF : IsForms W tb) :
    Calls Tryz.prog 30 #[.pointer (some ⟨tb, 0, none⟩), .slice p xs.length c] W fun e W' => e = .returned (.int .i64 (wrongI xs : Int)) ∧ Below W.heap.size W W' := by
  obtain ⟨n, hn⟩ : ∃ n, n = xs.length := ⟨_, rfl⟩
  obtain ⟨wi, hwi⟩ : ∃ wi, wi = wrongI xs := ⟨_, rfl⟩
  rw [← hwi]
  have HN := keepH hn
  have HWI := keepH hwi
  rw [← hn] at hl ⊢
  have HR := keepH h
  have HOK := keepH hok
  have HF := keepH hF
  clear hn hwi h hok hF
  go_enter Tryz.func30, Tryz.ntmps30
  go_wp2_with fail
  go_loopw [5, 6, 9] (fun s5 s6 s9 wr => ∃ i : Nat, i ≤ n ∧ s9 = .int .i64 (i : Int) ∧ Hid (Below W.heap.size W wr) ∧ Hid (∀ j y, j < i → xs[j]? = some y → RightA y)) (fun _ _ s9 _ => n - (intOf s9).toNat)
  case atStart => exact ⟨0, by omega, rfl, keepH (Below.refl _ _), keepH (fun j y hj => absurd hj (Nat.not_lt_zero _))⟩
  case round =>
    obtain ⟨i, hi, rfl, HB, HA⟩ := hrel
    by_cases hlt : i < n
    · have q1 : (i : Int) < (n : Int) := by omega
      have q0 : (0 : Int) ≤ (i : Int) := by omega
      obtain ⟨x, hx⟩ : ∃ x, xs[i]? = some x := ⟨xs[i]'(by rw [← HN.out]; exact hlt), List.getElem?_eq_getElem _⟩
      have hxo : x.Ok := HOK.out x (List.mem_of_getElem? hx)
      obtain ⟨bk, off, vp, vc, rfl, hbk, a0, a1, a2, a3, a4, a5, a6, a7, hu⟩ := (HR.out.on HB.out).get i x hx
      obtain ⟨w3, hw3⟩ : ∃ w3, w3 = wr.alloc (.cells (accC x.th x.kind x.addr x.a x.b (.slice vp x.vals.length vc) x.got x.ok) 44) := ⟨_, rfl⟩
      have C3 : Below wr.heap.size wr w3 := by rw [hw3]; exact below_alloc _ _
      have X3 : w3.heap[wr.heap.size]? = some (.cells (accC x.th x.kind x.addr x.a x.b (.slice vp x.vals.length vc) x.got x.ok) 44 (0, 0)) := by rw [hw3]; exact heap_alloc_new _ _
      have B3 := below_chain HB.out C3
      have hr := right_any x hxo tb vp vc w3 (HF.out.on B3)
      obtain ⟨th, kind, ad, xa, xb, vals, got, ok⟩ := x
      simp only at a0 a1 a2 a3 a4 a5 a6 a7 hw3 X3 hr
      obtain ⟨R, hR⟩ : ∃ R, R = decide (RightA ⟨th, kind, ad, xa, xb, vals, got, ok⟩) := ⟨_, rfl⟩
      rw [← hR] at hr
      obtain ⟨m, hm⟩ : ∃ m, m = vals.length := ⟨_, rfl⟩
      rw [← hm] at a5 hw3 X3 hr
      have b0 : w3.cell? ⟨wr.heap.size, 0, none⟩ = some (.int .i64 th) := cell_of X3 0
      have b1 : w3.cell? ⟨wr.heap.size, 1, none⟩ = some (.int .u8 (kind : Int)) := cell_of X3 1
      have b2 : w3.cell? ⟨wr.heap.size, 2, none⟩ = some (.int .u64 (ad : Int)) := cell_of X3 2
      have b3 : w3.cell? ⟨wr.heap.size, 3, none⟩ = some (.int .u64 (xa : Int)) := cell_of X3 3
      have b4 : w3.cell? ⟨wr.heap.size, 4, none⟩ = some (.int .u64 (xb : Int)) := cell_of X3 4
      have b5 : w3.cell? ⟨wr.heap.size, 5, none⟩ = some (.slice vp m vc) := cell_of X3 5
      have b6 : w3.cell? ⟨wr.heap.size, 6, none⟩ = some (.int .u64 (got : Int)) := cell_of X3 6
      have b7 : w3.cell? ⟨wr.heap.size, 7, none⟩ = some (.bool ok) := cell_of X3 7
      have HX := keepH hx
      have HRR := keepH hR
      have HB3 := keepH B3
      clear hx hR hm C3 X3 B3 hu hxo
      go_upto_region 4 with fail
      rw [← hw3]
      obtain ⟨nb, hnb⟩ : ∃ nb, nb = wr.heap.size := ⟨_, rfl⟩
      rw [← hnb] at b0 b1 b2 b3 b4 b5 b6 b7 ⊢
      clear hw3 hnb a0 a1 a2 a3 a4 a5 a6 a7
      cases R
      · go_wp2_with fail
        refine hr.mono ?_
        rintro e w4 ⟨rfl, C4⟩
        have B4 := keepH (below_chain HB3.out C4)
        clear C4
        go_wp2_with fail
        go_ret
        exact ⟨by rw [HWI.out, wrongI_at HX.out HA.out (of_decide_eq_false HRR.out.symm)]; rfl, B4.out⟩
      · go_wp2_with fail
        refine hr.mono ?_
        rintro e w4 ⟨rfl, C4⟩
        have B4 := keepH (below_chain HB3.out C4)
        clear C4
        go_wp2_with fail
        go_roundw
        case rel => exact ⟨i + 1, by omega, by first | rfl | go_num, B4, keepH (fun j y hj hy => by
          rcases Nat.lt_or_ge j i with q | q
          · exact HA.out j y q hy
          · obtain rfl : j = i := by omega
            have e := HX.out.symm.trans hy
            injection e with e
            subst e
            exact of_decide_eq_true HRR.out.symm)⟩
        case measure => simp [intOf]; omega
    · have q1 : ¬ (i : Int) < (n : Int) := by omega
      obtain rfl : i = n := by omega
      go_wp2_with fail
      go_ret
      exact ⟨by rw [HWI.out, wrongI_all (fun x hx => by obtain ⟨j, hj, rfl⟩ := List.getElem_of_mem hx; exact HA.out j _ (by rw [HN.out]; exact hj) (List.getElem?_eq_getElem hj)), ← HN.out]; rfl, HB.out⟩

set_option maxRecDepth 100000 in
theorem ok_word (b : Bool) (W : World) : Calls Tryz.prog 69 #[.bool b] W fun e W' => e = .returned (.string (mkS (okL b))) ∧ W' = W := by
  cases b
  · go_enter Tryz.func69, Tryz.ntmps69
    go_wp2_with fail
    go_ret
    exact ⟨rfl, rfl⟩
  · go_enter Tryz.func69, Tryz.ntmps69
    go_wp2_with fail
    go_ret
    exact ⟨rfl, rfl⟩

def kindV (t : List UInt8) : Value := match kindP t with | some k => .tuple #[.int .u8 (k : Int), .bool true] | none => .tuple #[.int .u8 0, .bool false]
end Go.Proofs.YtjodechhnobkhaaGreatDoor
