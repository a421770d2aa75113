/- What comes in: operations. -/
import Derived.SizedLaws
import Derived.Test.YtnlkdibalhgipaaNp
namespace Go.Proofs.Ytnlkdibalhgipaa
open Go.RowKit Go.Joins Go.ChangeShapes Go.WideShapes Go.Deep
set_option linter.unusedVariables false

theorem cut_next {cs f : List Value} {o s : Nat} (h : (cs.drop o).take s = f) : cs.drop o = f ++ cs.drop (o + s) := by
  rw [← h, ← List.drop_drop, List.take_append_drop]
theorem slice_len {H : Type} {enc : TypeId × Value → H} {W : World} {sp : Nat → Bool} {held : Bool} {fuel : Nat} {cs : List Value} {x : DataW H × List MemPlace} {T E : TypeId} (hT : Try.prog.underlying T = some (.slice E)) (hf : DataW.trod enc Try.prog W 0 sp held fuel T cs = some x) {p : Option Addr} {n c : Nat} (hc : cs = [.slice p n c]) : n ≤ maxLen := by
  rcases open_slice hT hf with ⟨hcs, _⟩ | ⟨a, len, cap, m, k, D, Pl, hcs, _, hl, hm, _⟩
  · rw [hc] at hcs; simp at hcs; omega
  · rw [hc] at hcs; simp at hcs; omega
theorem keys_cells {H : Type} {enc : TypeId × Value → H} {W : World} {sp : Nat → Bool} {held : Bool} {fuel : Nat} {cs : List Value} {x : DataW H × List MemPlace} (h : DataW.trod enc Try.prog W 0 sp held fuel 38 cs = some x) :
    ∃ (p : Option Addr) (c : Nat) (l : List Nat), cs = [.slice p l.length c] ∧ KeysAt W p l := by
  obtain ⟨p, n, c, hcs, _, hr⟩ := slice_rows (s := 1) (Q := fun cs => ∃ k : Nat, k < 18446744073709551616 ∧ cs = [.int .u64 (k : Int)]) Try.underlying38 coU (by decide) (fun fuel cs y hy => by
    obtain ⟨z, e, _, w⟩ := DataW.trod_int Try.underlying30 hy
    obtain ⟨k, rfl, hk⟩ := nat_u64 w
    exact ⟨⟨k, hk, e⟩, by rw [e]; rfl⟩) h
  rcases hr with rfl | ⟨bk, off, rfl, hb, hr⟩
  · exact ⟨p, c, [], hcs, .inl rfl⟩
  · obtain ⟨l, hl, hp⟩ := choose_list (P := fun i (k : Nat) => k < 18446744073709551616 ∧ W.cell? ⟨bk, off + i, none⟩ = some (.int .u64 (k : Int))) n (fun i hi => by
      obtain ⟨cs', ⟨k, hk, rfl⟩, hc⟩ := hr i hi
      have := hc 0 _ rfl
      simp at this
      exact ⟨k, hk, this⟩)
    subst hl
    exact ⟨_, c, l, hcs, .inr ⟨bk, off, rfl, hb, hp⟩⟩
theorem pairs_cellsL {H : Type} {enc : TypeId × Value → H} {W : World} {sp : Nat → Bool} {held : Bool} {fuel : Nat} {cs : List Value} {x : DataW H × List MemPlace} (h : DataW.trod enc Try.prog W 0 sp held fuel 31 cs = some x) :
    ∃ (p : Option Addr) (c : Nat) (l : List (Nat × Nat)), cs = [.slice p l.length c] ∧ PairsAt W p l ∧ l.length ≤ maxLen := by
  obtain ⟨p, n, c, hcs, _, _⟩ := slice_rows (s := 2) (Q := fun cs => True) Try.underlying31 coPair (by decide) (fun fuel cs y hy => by
    obtain ⟨xs, n, rfl, rfl, hl, hlen, hh⟩ := DataW.trod_struct Try.underlying64 hy
    rw [coPair] at hl
    exact ⟨trivial, hl⟩) h
  have hl := slice_len Try.underlying31 h hcs
  subst hcs
  obtain ⟨l, hl2, hP⟩ := pairs_open (d := x.1) (ps := x.2) ⟨fuel, by simpa [Value.cells] using h⟩
  subst hl2
  exact ⟨p, c, l, rfl, hP, hl⟩
theorem co_3 : Try.prog.cellsOf 3 = 1 := by kernel_rfl
theorem co_4 : Try.prog.cellsOf 4 = 1 := by kernel_rfl
theorem co_30 : Try.prog.cellsOf 30 = 1 := by kernel_rfl
theorem co_35 : Try.prog.cellsOf 35 = 1 := by kernel_rfl
theorem co_37 : Try.prog.cellsOf 37 = 3 := by kernel_rfl
theorem co_38 : Try.prog.cellsOf 38 = 1 := by kernel_rfl
theorem co_40 : Try.prog.cellsOf 40 = 11 := by kernel_rfl
theorem open_37 {H : Type} {enc : TypeId × Value → H} {W : World} {sp : Nat → Bool} {held : Bool} {fuel : Nat} {cs : List Value} {x : DataW H × List MemPlace} (hf : DataW.trod enc Try.prog W 0 sp held fuel 37 cs = some x) : ∃ (r5 : Bool) (r6 : Int) (r7 : Int), cs = [.bool r5, .int .i64 r6, .int .i64 r7] := by
  obtain ⟨xs, n, hn, hx, hl, hlen, hh⟩ := DataW.trod_struct Try.underlying37 hf
  rw [co_37] at hl
  have h0 := (hh 0 _ rfl).trans (List.getElem?_eq_getElem (show 0 < xs.length by rw [hlen]; decide))
  obtain ⟨r5, e0, _⟩ := DataW.trod_bool Try.underlying4 h0
  have y0 : (cs.drop 0).take (Try.prog.cellsOf 4) = _ := e0
  rw [co_4] at y0
  have s0 : cs.drop 0 = _ ++ cs.drop 1 := cut_next y0
  have h1 := (hh 1 _ rfl).trans (List.getElem?_eq_getElem (show 1 < xs.length by rw [hlen]; decide))
  obtain ⟨r6, e1, _, _⟩ := DataW.trod_int Try.underlying3 h1
  have y1 : (cs.drop 1).take (Try.prog.cellsOf 3) = _ := e1
  rw [co_3] at y1
  have s1 : cs.drop 1 = _ ++ cs.drop 2 := cut_next y1
  have h2 := (hh 2 _ rfl).trans (List.getElem?_eq_getElem (show 2 < xs.length by rw [hlen]; decide))
  obtain ⟨r7, e2, _, _⟩ := DataW.trod_int Try.underlying3 h2
  have y2 : (cs.drop 2).take (Try.prog.cellsOf 3) = _ := e2
  rw [co_3] at y2
  have s2 : cs.drop 2 = _ ++ cs.drop 3 := cut_next y2
  have z : cs.drop 3 = [] := List.drop_eq_nil_of_le (by omega)
  rw [z] at s2
  rw [s2] at s1
  rw [s1] at s0
  exact ⟨r5, r6, r7, (List.drop_zero (l := cs)).symm.trans s0⟩
theorem open_40 {H : Type} {enc : TypeId × Value → H} {W : World} {sp : Nat → Bool} {held : Bool} {fuel : Nat} {cs : List Value} {x : DataW H × List MemPlace} (hf : DataW.trod enc Try.prog W 0 sp held fuel 40 cs = some x) : ∃ (kd : Int) (k : Nat) (v : Nat) (od : Nat) (hk : Nat) (r5 : Bool) (r6 : Int) (r7 : Int) (ksp : Option Addr) (ksc : Nat) (ks : List Nat) (lo : Nat) (hi : Nat), cs = [.int .u8 kd, .int .u64 (k : Int), .int .u64 (v : Int), .int .u64 (od : Int), .int .u64 (hk : Int), .bool r5, .int .i64 r6, .int .i64 r7, .slice ksp ks.length ksc, .int .u64 (lo : Int), .int .u64 (hi : Int)] ∧ k < 18446744073709551616 ∧ v < 18446744073709551616 ∧ od < 18446744073709551616 ∧ hk < 18446744073709551616 ∧ KeysAt W ksp ks ∧ lo < 18446744073709551616 ∧ hi < 18446744073709551616 := by
  obtain ⟨xs, n, hn, hx, hl, hlen, hh⟩ := DataW.trod_struct Try.underlying40 hf
  rw [co_40] at hl
  have h0 := (hh 0 _ rfl).trans (List.getElem?_eq_getElem (show 0 < xs.length by rw [hlen]; decide))
  obtain ⟨kd, e0, _, _⟩ := DataW.trod_int Try.underlying35 h0
  have y0 : (cs.drop 0).take (Try.prog.cellsOf 35) = _ := e0
  rw [co_35] at y0
  have s0 : cs.drop 0 = _ ++ cs.drop 1 := cut_next y0
  have h1 := (hh 1 _ rfl).trans (List.getElem?_eq_getElem (show 1 < xs.length by rw [hlen]; decide))
  obtain ⟨z_k, e1, _, w_k⟩ := DataW.trod_int Try.underlying30 h1
  obtain ⟨k, rfl, f_k⟩ := nat_u64 w_k
  have y1 : (cs.drop 1).take (Try.prog.cellsOf 30) = _ := e1
  rw [co_30] at y1
  have s1 : cs.drop 1 = _ ++ cs.drop 2 := cut_next y1
  have h2 := (hh 2 _ rfl).trans (List.getElem?_eq_getElem (show 2 < xs.length by rw [hlen]; decide))
  obtain ⟨z_v, e2, _, w_v⟩ := DataW.trod_int Try.underlying30 h2
  obtain ⟨v, rfl, f_v⟩ := nat_u64 w_v
  have y2 : (cs.drop 2).take (Try.prog.cellsOf 30) = _ := e2
  rw [co_30] at y2
  have s2 : cs.drop 2 = _ ++ cs.drop 3 := cut_next y2
  have h3 := (hh 3 _ rfl).trans (List.getElem?_eq_getElem (show 3 < xs.length by rw [hlen]; decide))
  obtain ⟨z_od, e3, _, w_od⟩ := DataW.trod_int Try.underlying30 h3
  obtain ⟨od, rfl, f_od⟩ := nat_u64 w_od
  have y3 : (cs.drop 3).take (Try.prog.cellsOf 30) = _ := e3
  rw [co_30] at y3
  have s3 : cs.drop 3 = _ ++ cs.drop 4 := cut_next y3
  have h4 := (hh 4 _ rfl).trans (List.getElem?_eq_getElem (show 4 < xs.length by rw [hlen]; decide))
  obtain ⟨z_hk, e4, _, w_hk⟩ := DataW.trod_int Try.underlying30 h4
  obtain ⟨hk, rfl, f_hk⟩ := nat_u64 w_hk
  have y4 : (cs.drop 4).take (Try.prog.cellsOf 30) = _ := e4
  rw [co_30] at y4
  have s4 : cs.drop 4 = _ ++ cs.drop 5 := cut_next y4
  have h5 := (hh 5 _ rfl).trans (List.getElem?_eq_getElem (show 5 < xs.length by rw [hlen]; decide))
  obtain ⟨r5, r6, r7, e5⟩ := open_37 h5
  have y5 : (cs.drop 5).take (Try.prog.cellsOf 37) = _ := e5
  rw [co_37] at y5
  have s5 : cs.drop 5 = _ ++ cs.drop 8 := cut_next y5
  have h6 := (hh 6 _ rfl).trans (List.getElem?_eq_getElem (show 6 < xs.length by rw [hlen]; decide))
  obtain ⟨ksp, ksc, ks, e6, f_ks⟩ := keys_cells h6
  have y6 : (cs.drop 8).take (Try.prog.cellsOf 38) = _ := e6
  rw [co_38] at y6
  have s6 : cs.drop 8 = _ ++ cs.drop 9 := cut_next y6
  have h7 := (hh 7 _ rfl).trans (List.getElem?_eq_getElem (show 7 < xs.length by rw [hlen]; decide))
  obtain ⟨z_lo, e7, _, w_lo⟩ := DataW.trod_int Try.underlying30 h7
  obtain ⟨lo, rfl, f_lo⟩ := nat_u64 w_lo
  have y7 : (cs.drop 9).take (Try.prog.cellsOf 30) = _ := e7
  rw [co_30] at y7
  have s7 : cs.drop 9 = _ ++ cs.drop 10 := cut_next y7
  have h8 := (hh 8 _ rfl).trans (List.getElem?_eq_getElem (show 8 < xs.length by rw [hlen]; decide))
  obtain ⟨z_hi, e8, _, w_hi⟩ := DataW.trod_int Try.underlying30 h8
  obtain ⟨hi, rfl, f_hi⟩ := nat_u64 w_hi
  have y8 : (cs.drop 10).take (Try.prog.cellsOf 30) = _ := e8
  rw [co_30] at y8
  have s8 : cs.drop 10 = _ ++ cs.drop 11 := cut_next y8
  have z : cs.drop 11 = [] := List.drop_eq_nil_of_le (by omega)
  rw [z] at s8
  rw [s8] at s7
  rw [s7] at s6
  rw [s6] at s5
  rw [s5] at s4
  rw [s4] at s3
  rw [s3] at s2
  rw [s2] at s1
  rw [s1] at s0
  exact ⟨kd, k, v, od, hk, r5, r6, r7, ksp, ksc, ks, lo, hi, (List.drop_zero (l := cs)).symm.trans s0, f_k, f_v, f_od, f_hk, f_ks, f_lo, f_hi⟩
theorem op_open {H : Type} {enc : TypeId × Value → H} {W : World} {sp : Nat → Bool} {held : Bool} {fuel : Nat} {cs : List Value} {x : DataW H × List MemPlace} (hf : DataW.trod enc Try.prog W 0 sp held fuel 40 cs = some x) : (∃ y : OpI, cs = y.cs ∧ y.Ok W) ∧ cs.length = 11 := by
  obtain ⟨kd, k, v, od, hk, r5, r6, r7, ksp, ksc, ks, lo, hi, e, f1, f2, f3, f4, f5, f6, f7⟩ := open_40 hf
  exact ⟨⟨⟨⟨kd, k, v, od, hk, ks, lo, hi⟩, r5, r6, r7, ksp, ksc⟩, e, ⟨⟨f1, f2, f3, f4, f6, f7⟩, f5⟩⟩, by rw [e]; rfl⟩
theorem ops_open {H : Type} {enc : TypeId × Value → H} {W : World} {sp : Nat → Bool} {held : Bool} {p : Option Addr} {n c : Nat} {d : DataW H} {ps : List MemPlace} (h : DataW.Trod enc Try.prog W 0 sp held 22 (.slice p n c) d ps) : ∃ l : List OpI, l.length = n ∧ OpsAt W p l := by
  obtain ⟨fuel, hf⟩ := h
  obtain ⟨p', n', c', hcs, _, hr⟩ := slice_rows (s := 11) (Q := fun cs => ∃ y : OpI, cs = y.cs ∧ y.Ok W) Try.underlying22 co_40 (by decide) (fun fuel cs y hy => op_open hy) hf
  simp [Value.cells] at hcs
  obtain ⟨rfl, rfl, rfl⟩ := hcs
  rcases hr with rfl | ⟨bk, off, rfl, hb, hr⟩
  · exact ⟨[], rfl, .inl rfl⟩
  · obtain ⟨l, hl, hp⟩ := choose_list (P := fun i y => OpI.Ok W y ∧ ∀ j v, y.cs[j]? = some v → W.cell? ⟨bk, off + i * 11 + j, none⟩ = some v) n (fun i hi => by
      obtain ⟨cs', ⟨y, rfl, hy⟩, hc⟩ := hr i hi
      exact ⟨y, hy, fun j v hj => by rw [Nat.add_assoc]; exact hc j v hj⟩)
    exact ⟨l, hl, .inr ⟨bk, off, rfl, hb, hp⟩⟩
theorem bytesOp : Try.prog.bytesOf 40 = 104 := by kernel_rfl
theorem slice_size {H : Type} {enc : TypeId × Value → H} {W : World} {sp : Nat → Bool} {held : Bool} {p : Option Addr} {n c : Nat} {d : DataW H} {ps : List MemPlace} {T E : TypeId} {ts : List TypeId} {ds : List (DataW H)} {j : Nat} (hT : Try.prog.underlying T = some (.slice E)) (h : DataW.Trod enc Try.prog W 0 sp held T (.slice p n c) d ps)
    (hsz : (DataW.weightsEach Try.prog ts ds).all (· ≤ reachBytes) = true) (ht : ts[j]? = some T) (hd : ds[j]? = some d) : n * Try.prog.bytesOf E ≤ reachBytes := by
  obtain ⟨fuel, hf⟩ := h
  rcases open_slice hT hf with ⟨hcs, _⟩ | ⟨a, len, cap, m, k, D, Pl, hcs, _, hl, hm, hme, hx, hi⟩
  · simp [Value.cells] at hcs
    obtain ⟨rfl, rfl, rfl⟩ := hcs
    simp
  · simp [Value.cells] at hcs
    obtain ⟨rfl, rfl, rfl⟩ := hcs
    simp only [Prod.mk.injEq] at hx
    rw [hx.1] at hd
    have sz := sized_slice hsz ht hd hT
    refine Nat.le_trans (Nat.mul_le_mul_right _ ?_) sz
    simp
end Go.Proofs.Ytnlkdibalhgipaa
