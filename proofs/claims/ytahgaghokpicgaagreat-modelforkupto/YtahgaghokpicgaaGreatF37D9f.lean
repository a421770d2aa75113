/- Calls that come in, of a bounded bulk. -/
import Derived.Lib.SmallJoins
import Derived.Deep.Slices
import Derived.Carry
import Derived.OpenShut
import Derived.Test.YtahgaghokpicgaaGreatF1MsL
import Derived.Test.YtahgaghokpicgaaGreatF34Nn
import Derived.Deep.RegionHeld3
import Derived.Deep.CutRange
import Derived.Test.YtahgaghokpicgaaGreatF36D9e
namespace Go.Proofs.YtahgaghokpicgaaGreat
open Go.RowKit Go.Joins Go.ChangeShapes Go.WideShapes Go.Deep
set_option linter.unusedVariables false
set_option maxHeartbeats 16000000
theorem cut_nextQ {cs f : List Value} {o s : Nat} (h : (cs.drop o).take s = f) : cs.drop o = f ++ cs.drop (o + s) := by
 rw [← h, ← List.drop_drop, List.take_append_drop]
theorem slice_rowsSQ {H : Type} {enc : TypeId × Value → H} {W : World} {sp : Nat → Bool} {held : Bool} {fuel : Nat} {cs : List Value} {x : DataW H × List MemPlace} {T E : TypeId} {s : Nat} {Q : Nat → List Value → Prop} (hT : Tryz.prog.underlying T = some (.slice E)) (hs : Tryz.prog.cellsOf E = s) (hs0 : 0 < s)
    (hQ : ∀ fuel cs y, DataW.trod enc Tryz.prog W 0 sp held fuel E cs = some y → Q (Rows.uptoBulk y.1) cs ∧ cs.length = s) (hf : DataW.trod enc Tryz.prog W 0 sp held fuel T cs = some x) :
    ∃ p n c, cs = [.slice p n c] ∧ ∃ bu : List Nat, bu.length = n ∧ bu.sum + 1 ≤ Rows.uptoBulk x.1 ∧ (n = 0 ∨ ∃ bk off, p = some ⟨bk, off, none⟩ ∧ bk < W.heap.size ∧ ∀ i, i < n → ∃ cs' : List Value, (∃ w, bu[i]? = some w ∧ Q w cs') ∧ ∀ (j : Nat) (u : Value), cs'[j]? = some u → W.cell? ⟨bk, off + (i * s + j), none⟩ = some u) := by
 rcases open_slice hT hf with ⟨hcs, hx0⟩ | ⟨a, len, cap, m, k, D, Pl, hcs, _, hl, hm, hme, hx, hi⟩
 ·exact ⟨none, 0, 0, hcs, [], rfl, by simpa using bulk_one x.1, .inl rfl⟩
 ·have hmn : len ≤ m := by rw [hme]; split <;> omega
  have hsum : ∀ (l : List (DataW H)), (l.map Rows.uptoBulk).sum = Rows.uptoBulkAll l := by
   intro l
   induction l with
   | nil => rfl
   | cons d r ih => simp [Rows.uptoBulkAll, ih]
  refine ⟨some a, len, cap, hcs, ((List.range len).map D).map Rows.uptoBulk, by simp, ?_, ?_⟩
  ·rw [hsum, hx]
   simp only [Rows.uptoBulk]
   omega
  rcases Nat.eq_zero_or_pos len with h0 | h0
  ·exact .inl h0
  ·obtain ⟨bk, off, spot⟩ := a
   have hrow : ∀ i, i < len → ∃ cs' : List Value, ((∃ w, (((List.range len).map D).map Rows.uptoBulk)[i]? = some w ∧ Q w cs') ∧ cs'.length = s) ∧ ∀ (j : Nat) (u : Value), cs'[j]? = some u → W.cell? ((⟨bk, off, spot⟩ : Addr).add (i * s + j)) = some u := fun i hin => by
    obtain ⟨cs', hc, ht⟩ := hi i (by omega)
    obtain ⟨q1, q2⟩ := hQ _ _ _ ht
    refine ⟨cs', ⟨⟨_, by simp [hin], q1⟩, q2⟩, fun j u hj => ?_⟩
    rw [hs] at hc
    have e2 := cells_each hc j u hj
    have e3 : ((⟨bk, off, spot⟩ : Addr).add (i * s)).add j = (⟨bk, off, spot⟩ : Addr).add (i * s + j) := by
     unfold Addr.add
     split <;> split <;> simp_all <;> omega
    rw [← e3]
    exact e2
   have h00 : ∃ u, W.cell? ((⟨bk, off, spot⟩ : Addr).add 0) = some u := by
    obtain ⟨cs', ⟨_, hl'⟩, ho⟩ := hrow 0 h0
    obtain ⟨u, hu⟩ : ∃ u, cs'[0]? = some u := ⟨cs'[0]'(by omega), List.getElem?_eq_getElem _⟩
    exact ⟨u, by simpa using ho 0 u hu⟩
   obtain ⟨u, hu⟩ := h00
   have hspot : spot = none := by simpa [Addr.add] using World.cell?_spot hu
   subst hspot
   have hbk : bk < W.heap.size := World.block_lt_of_cell? W _ hu
   refine .inr ⟨bk, off, rfl, hbk, fun i hin => ?_⟩
   obtain ⟨cs', ⟨hq, _⟩, ho⟩ := hrow i hin
   refine ⟨cs', hq, fun j u hj => ?_⟩
   have e := ho j u hj
   unfold Addr.add at e
   split at e
   ·rename_i z
    have z0 : i * s + j = 0 := by simpa using z
    rw [z0]
    exact e
   ·exact e
theorem co_uQ : Tryz.prog.cellsOf 30 = 1 := by kernel_rfl
theorem co_usQ : Tryz.prog.cellsOf 33 = 1 := by kernel_rfl
theorem co_iQ : Tryz.prog.cellsOf 3 = 1 := by kernel_rfl
theorem co_bQ : Tryz.prog.cellsOf 4 = 1 := by kernel_rfl
theorem list2Q {α : Type} {cs : List α} (h : cs.length = 2) : ∃ c0 c1, cs = [c0, c1] := by
 match cs, h with
 | [c0, c1], _ => exact ⟨c0, c1, rfl⟩
theorem list3Q {α : Type} {cs : List α} (h : cs.length = 3) : ∃ c0 c1 c2, cs = [c0, c1, c2] := by
 match cs, h with
 | [c0, c1, c2], _ => exact ⟨c0, c1, c2, rfl⟩
theorem list7Q {α : Type} {cs : List α} (h : cs.length = 7) : ∃ c0 c1 c2 c3 c4 c5 c6, cs = [c0, c1, c2, c3, c4, c5, c6] := by
 match cs, h with
 | [c0, c1, c2, c3, c4, c5, c6], _ => exact ⟨c0, c1, c2, c3, c4, c5, c6, rfl⟩
theorem list9Q {α : Type} {cs : List α} (h : cs.length = 9) : ∃ c0 c1 c2 c3 c4 c5 c6 c7 c8, cs = [c0, c1, c2, c3, c4, c5, c6, c7, c8] := by
 match cs, h with
 | [c0, c1, c2, c3, c4, c5, c6, c7, c8], _ => exact ⟨c0, c1, c2, c3, c4, c5, c6, c7, c8, rfl⟩
theorem list11Q {α : Type} {cs : List α} (h : cs.length = 11) : ∃ c0 c1 c2 c3 c4 c5 c6 c7 c8 c9 c10, cs = [c0, c1, c2, c3, c4, c5, c6, c7, c8, c9, c10] := by
 match cs, h with
 | [c0, c1, c2, c3, c4, c5, c6, c7, c8, c9, c10], _ => exact ⟨c0, c1, c2, c3, c4, c5, c6, c7, c8, c9, c10, rfl⟩
theorem co_oQ : Tryz.prog.cellsOf 29 = 1 := by kernel_rfl
theorem co_eQ : Tryz.prog.cellsOf 36 = 1 := by kernel_rfl
theorem co_psQ : Tryz.prog.cellsOf 37 = 1 := by kernel_rfl
theorem co_rQ : Tryz.prog.cellsOf 32 = 3 := by kernel_rfl
theorem co_opQ : Tryz.prog.cellsOf 35 = 11 := by kernel_rfl
theorem co_anQ : Tryz.prog.cellsOf 39 = 7 := by kernel_rfl
theorem co_prQ : Tryz.prog.cellsOf 86 = 2 := by kernel_rfl
theorem vals_openQ {H : Type} {enc : TypeId × Value → H} {W : World} {sp : Nat → Bool} {held : Bool} {fuel : Nat} {cs : List Value} {x : DataW H × List MemPlace} (h : DataW.trod enc Tryz.prog W 0 sp held fuel 33 cs = some x) :
    ∃ (p : Option Addr) (c : Nat) (l : List Nat), cs = [.slice p l.length c] ∧ KeysAt W p l ∧ l.length + 1 ≤ Rows.uptoBulk x.1 := by
 obtain ⟨p, n, c, hcs, bu, hbl, hbs, hr⟩ := slice_rowsSQ (s := 1) (Q := fun w cs => 1 ≤ w ∧ ∃ k : Nat, k < 18446744073709551616 ∧ cs = [.int .u64 k]) Tryz.underlying33 co_uQ (by decide) (fun fuel cs y hy => by
  obtain ⟨z, e, _, w⟩ := DataW.trod_int Tryz.underlying30 hy
  obtain ⟨k, rfl, hk⟩ := nat_u64 w
  exact ⟨⟨bulk_one _, k, hk, e⟩, by rw [e]; rfl⟩) h
 rcases hr with rfl | ⟨bk, off, rfl, hbk, hr⟩
 ·exact ⟨p, c, [], hcs, .inl rfl, by simpa using bulk_one x.1⟩
 ·obtain ⟨l, hl, hp⟩ := choose_list (P := fun i (k : Nat) => (1 ≤ bu.getD i 0) ∧ k < 18446744073709551616 ∧ W.cell? ⟨bk, off + i, none⟩ = some (.int .u64 k)) n (fun i hi => by
    obtain ⟨cs', ⟨w, hw, h1, k, hk, rfl⟩, hc⟩ := hr i hi
    refine ⟨k, by simp [List.getD, hw]; exact h1, hk, ?_⟩
    have := hc 0 _ rfl
    simpa using this)
  have hsum : ∀ (b : List Nat), (∀ i, i < b.length → 1 ≤ b.getD i 0) → b.length ≤ b.sum := by
   intro b
   induction b with
   | nil => intro _; simp
   | cons z r ih =>
    intro hb
    have h0 := hb 0 (by simp)
    have h1 := ih (fun i hi => by have := hb (i + 1) (by simp; omega); simpa using this)
    simp only [List.length_cons, List.sum_cons]
    simp at h0
    omega
  subst hl
  refine ⟨_, c, l, hcs, .inr ⟨bk, off, rfl, hbk, fun i u hu => (hp i u hu).2⟩, ?_⟩
  ·have := hsum bu (fun i hi => by
     rw [hbl] at hi
     exact (hp i l[i] (List.getElem?_eq_getElem hi)).1)
   omega
theorem pair_openQ {H : Type} {enc : TypeId × Value → H} {W : World} {sp : Nat → Bool} {held : Bool} {fuel : Nat} {cs : List Value} {x : DataW H × List MemPlace} (h : DataW.trod enc Tryz.prog W 0 sp held fuel 86 cs = some x) : ∃ a b : Nat, cs = [.int .u64 a, .int .u64 b] ∧ a < 18446744073709551616 ∧ b < 18446744073709551616 := by
 obtain ⟨xs, n, hn, hx, hl, hlen, hh⟩ := DataW.trod_struct Tryz.underlying86 h
 rw [co_prQ] at hl
 obtain ⟨c0, c1, rfl⟩ := list2Q hl
 obtain ⟨y0, y1, rfl⟩ := list2Q (show xs.length = 2 from hlen)
 have h0 : DataW.trod enc Tryz.prog W 0 sp held n 30 [c0] = some y0 := by have := hh 0 _ rfl; simpa [co_uQ] using this
 have h1 : DataW.trod enc Tryz.prog W 0 sp held n 30 [c1] = some y1 := by have := hh 1 _ rfl; simpa [co_uQ] using this
 obtain ⟨z0, e0, _, w0⟩ := DataW.trod_int Tryz.underlying30 h0
 obtain ⟨z1, e1, _, w1⟩ := DataW.trod_int Tryz.underlying30 h1
 obtain ⟨a, rfl, ha⟩ := nat_u64 w0
 obtain ⟨b, rfl, hb⟩ := nat_u64 w1
 simp at e0 e1
 subst e0 e1
 exact ⟨a, b, rfl, ha, hb⟩
theorem pairs_openQ {H : Type} {enc : TypeId × Value → H} {W : World} {sp : Nat → Bool} {held : Bool} {fuel : Nat} {cs : List Value} {x : DataW H × List MemPlace} (h : DataW.trod enc Tryz.prog W 0 sp held fuel 37 cs = some x) :
    ∃ (p : Option Addr) (c : Nat) (l : List (Nat × Nat)), cs = [.slice p l.length c] ∧ PairsAt W p l ∧ l.length + 1 ≤ Rows.uptoBulk x.1 := by
 obtain ⟨p, n, c, hcs, bu, hbl, hbs, hr⟩ := slice_rowsSQ (s := 2) (Q := fun w cs => 1 ≤ w ∧ ∃ a b : Nat, (a < 18446744073709551616 ∧ b < 18446744073709551616) ∧ cs = [.int .u64 a, .int .u64 b]) Tryz.underlying37 co_prQ (by decide) (fun fuel cs y hy => by
  obtain ⟨a, b, e, ha, hb⟩ := pair_openQ hy
  exact ⟨⟨bulk_one _, a, b, ⟨ha, hb⟩, e⟩, by rw [e]; rfl⟩) h
 rcases hr with rfl | ⟨bk, off, rfl, hbk, hr⟩
 ·exact ⟨p, c, [], hcs, .inl rfl, by simpa using bulk_one x.1⟩
 ·obtain ⟨l, hl, hp⟩ := choose_list (P := fun i (k : Nat × Nat) => (1 ≤ bu.getD i 0) ∧ (k.1 < 18446744073709551616 ∧ k.2 < 18446744073709551616) ∧ W.cell? ⟨bk, off + i * 2, none⟩ = some (.int .u64 k.1) ∧ W.cell? ⟨bk, off + i * 2 + 1, none⟩ = some (.int .u64 k.2)) n (fun i hi => by
    obtain ⟨cs', ⟨w, hw, h1, a, b, hk, rfl⟩, hc⟩ := hr i hi
    refine ⟨(a, b), by simp [List.getD, hw]; exact h1, hk, ?_, ?_⟩
    ·have := hc 0 _ rfl
     simpa using this
    ·have := hc 1 _ rfl
     rw [← Nat.add_assoc] at this
     exact this)
  have hsum : ∀ (b : List Nat), (∀ i, i < b.length → 1 ≤ b.getD i 0) → b.length ≤ b.sum := by
   intro b
   induction b with
   | nil => intro _; simp
   | cons z r ih =>
    intro hb
    have h0 := hb 0 (by simp)
    have h1 := ih (fun i hi => by have := hb (i + 1) (by simp; omega); simpa using this)
    simp only [List.length_cons, List.sum_cons]
    simp at h0
    omega
  subst hl
  refine ⟨_, c, l, hcs, .inr ⟨bk, off, rfl, hbk, fun i a b hu => ⟨(hp i (a, b) hu).2.1.1, (hp i (a, b) hu).2.1.2, (hp i (a, b) hu).2.2⟩⟩, ?_⟩
  ·have := hsum bu (fun i hi => by
     rw [hbl] at hi
     exact (hp i l[i] (List.getElem?_eq_getElem hi)).1)
   omega
theorem ref_openQ {H : Type} {enc : TypeId × Value → H} {W : World} {sp : Nat → Bool} {held : Bool} {fuel : Nat} {cs : List Value} {x : DataW H × List MemPlace} (h : DataW.trod enc Tryz.prog W 0 sp held fuel 32 cs = some x) : ∃ (s : Bool) (a b : Int), cs = [.bool s, .int .i64 a, .int .i64 b] ∧ (Lit.int .i64 a).wf = true ∧ (Lit.int .i64 b).wf = true := by
 obtain ⟨xs, n, hn, hx, hl, hlen, hh⟩ := DataW.trod_struct Tryz.underlying32 h
 rw [co_rQ] at hl
 obtain ⟨c0, c1, c2, rfl⟩ := list3Q hl
 obtain ⟨y0, y1, y2, rfl⟩ := list3Q (show xs.length = 3 from hlen)
 have h0 : DataW.trod enc Tryz.prog W 0 sp held n 4 [c0] = some y0 := by have := hh 0 _ rfl; simpa [co_bQ] using this
 have h1 : DataW.trod enc Tryz.prog W 0 sp held n 3 [c1] = some y1 := by have := hh 1 _ rfl; simpa [co_iQ] using this
 have h2 : DataW.trod enc Tryz.prog W 0 sp held n 3 [c2] = some y2 := by have := hh 2 _ rfl; simpa [co_iQ] using this
 obtain ⟨s, e0, _⟩ := DataW.trod_bool Tryz.underlying4 h0
 obtain ⟨a, e1, _, w1⟩ := DataW.trod_int Tryz.underlying3 h1
 obtain ⟨b, e2, _, w2⟩ := DataW.trod_int Tryz.underlying3 h2
 simp at e0 e1 e2
 subst e0 e1 e2
 exact ⟨s, a, b, rfl, w1, w2⟩
theorem op_openQ {H : Type} {enc : TypeId × Value → H} {W : World} {sp : Nat → Bool} {held : Bool} {fuel : Nat} {cs : List Value} {x : DataW H × List MemPlace} (h : DataW.trod enc Tryz.prog W 0 sp held fuel 35 cs = some x) : ∃ (o : OpP) (r5 : Bool) (r6 r7 : Int) (kp : Option Addr) (kc : Nat), cs = [.int .u8 o.kd, .int .u64 o.k, .int .u64 o.v, .int .u64 o.od, .int .u64 o.hk, .bool r5, .int .i64 r6, .int .i64 r7, .slice kp o.ks.length kc, .int .u64 o.lo, .int .u64 o.hi] ∧ o.Ok ∧ (Lit.int .i64 r6).wf = true ∧ (Lit.int .i64 r7).wf = true ∧ KeysAt W kp o.ks ∧ o.ks.length + 1 ≤ Rows.uptoBulk x.1 ∧ 10 ≤ Rows.uptoBulk x.1 := by
 obtain ⟨xs, n, hn, hx, hl, hlen, hh⟩ := DataW.trod_struct Tryz.underlying35 h
 rw [co_opQ] at hl
 obtain ⟨c0, c1, c2, c3, c4, c5, c6, c7, c8, c9, c10, rfl⟩ := list11Q hl
 obtain ⟨y0, y1, y2, y3, y4, y5, y6, y7, y8, rfl⟩ := list9Q (show xs.length = 9 from hlen)
 have h0 : DataW.trod enc Tryz.prog W 0 sp held n 29 [c0] = some y0 := by have := hh 0 _ rfl; simpa [co_oQ] using this
 have h1 : DataW.trod enc Tryz.prog W 0 sp held n 30 [c1] = some y1 := by have := hh 1 _ rfl; simpa [co_uQ] using this
 have h2 : DataW.trod enc Tryz.prog W 0 sp held n 30 [c2] = some y2 := by have := hh 2 _ rfl; simpa [co_uQ] using this
 have h3 : DataW.trod enc Tryz.prog W 0 sp held n 30 [c3] = some y3 := by have := hh 3 _ rfl; simpa [co_uQ] using this
 have h4 : DataW.trod enc Tryz.prog W 0 sp held n 30 [c4] = some y4 := by have := hh 4 _ rfl; simpa [co_uQ] using this
 have h5 : DataW.trod enc Tryz.prog W 0 sp held n 32 [c5, c6, c7] = some y5 := by have := hh 5 _ rfl; simpa [co_rQ] using this
 have h6 : DataW.trod enc Tryz.prog W 0 sp held n 33 [c8] = some y6 := by have := hh 6 _ rfl; simpa [co_usQ] using this
 have h7 : DataW.trod enc Tryz.prog W 0 sp held n 30 [c9] = some y7 := by have := hh 7 _ rfl; simpa [co_uQ] using this
 have h8 : DataW.trod enc Tryz.prog W 0 sp held n 30 [c10] = some y8 := by have := hh 8 _ rfl; simpa [co_uQ] using this
 obtain ⟨k, e0, _, w0⟩ := DataW.trod_int Tryz.underlying29 h0
 obtain ⟨z1, e1, _, w1⟩ := DataW.trod_int Tryz.underlying30 h1
 obtain ⟨z2, e2, _, w2⟩ := DataW.trod_int Tryz.underlying30 h2
 obtain ⟨z3, e3, _, w3⟩ := DataW.trod_int Tryz.underlying30 h3
 obtain ⟨z4, e4, _, w4⟩ := DataW.trod_int Tryz.underlying30 h4
 obtain ⟨s, a, b, e5, ha, hb⟩ := ref_openQ h5
 obtain ⟨kp, kc, keys, e6, hK, hbl⟩ := vals_openQ h6
 obtain ⟨z7, e7, _, w7⟩ := DataW.trod_int Tryz.underlying30 h7
 obtain ⟨z8, e8, _, w8⟩ := DataW.trod_int Tryz.underlying30 h8
 obtain ⟨key, rfl, hkey⟩ := nat_u64 w1
 obtain ⟨val, rfl, hval⟩ := nat_u64 w2
 obtain ⟨old, rfl, hold⟩ := nat_u64 w3
 obtain ⟨hnd, rfl, hhnd⟩ := nat_u64 w4
 obtain ⟨lo, rfl, hlo⟩ := nat_u64 w7
 obtain ⟨hi, rfl, hhi⟩ := nat_u64 w8
 simp at e0 e1 e2 e3 e4 e5 e6 e7 e8
 obtain ⟨e5, e5', e5''⟩ := e5
 subst e0 e1 e2 e3 e4 e5 e5' e5'' e6 e7 e8
 have hx2 := fun (i : Nat) => bulk_one y0.1
 refine ⟨⟨k, key, val, old, hnd, keys, lo, hi⟩, s, a, b, kp, kc, rfl, ⟨hkey, hval, hold, hhnd, hlo, hhi⟩, ha, hb, hK, ?_⟩
 have hx1 : x.1 = .agg [y0.1, y1.1, y2.1, y3.1, y4.1, y5.1, y6.1, y7.1, y8.1] := by rw [hx]; rfl
 rw [hx1]
 simp only [Rows.uptoBulk, Rows.uptoBulkAll]
 (try simp only at hbl ⊢)
 have q0 := bulk_one y0.1
 have q1 := bulk_one y1.1
 have q2 := bulk_one y2.1
 have q3 := bulk_one y3.1
 have q4 := bulk_one y4.1
 have q5 := bulk_one y5.1
 have q6 := bulk_one y6.1
 have q7 := bulk_one y7.1
 have q8 := bulk_one y8.1
 omega
theorem ans_openQ {H : Type} {enc : TypeId × Value → H} {W : World} {sp : Nat → Bool} {held : Bool} {fuel : Nat} {cs : List Value} {x : DataW H × List MemPlace} (h : DataW.trod enc Tryz.prog W 0 sp held fuel 39 cs = some x) : ∃ (B : Ans) (p : Option Addr) (c : Nat), cs = [.int .i64 B.e, .bool B.f, .int .u64 B.x, .bool B.d, .int .u64 B.h, .slice p B.l.length c, .int .u64 B.n] ∧ B.h < 18446744073709551616 ∧ PairsAt W p B.l ∧ B.l.length + 1 ≤ Rows.uptoBulk x.1 ∧ 8 ≤ Rows.uptoBulk x.1 := by
 obtain ⟨xs, n, hn, hx, hl, hlen, hh⟩ := DataW.trod_struct Tryz.underlying39 h
 rw [co_anQ] at hl
 obtain ⟨c0, c1, c2, c3, c4, c5, c6, rfl⟩ := list7Q hl
 obtain ⟨y0, y1, y2, y3, y4, y5, y6, rfl⟩ := list7Q (show xs.length = 7 from hlen)
 have h0 : DataW.trod enc Tryz.prog W 0 sp held n 36 [c0] = some y0 := by have := hh 0 _ rfl; simpa [co_eQ] using this
 have h1 : DataW.trod enc Tryz.prog W 0 sp held n 4 [c1] = some y1 := by have := hh 1 _ rfl; simpa [co_bQ] using this
 have h2 : DataW.trod enc Tryz.prog W 0 sp held n 30 [c2] = some y2 := by have := hh 2 _ rfl; simpa [co_uQ] using this
 have h3 : DataW.trod enc Tryz.prog W 0 sp held n 4 [c3] = some y3 := by have := hh 3 _ rfl; simpa [co_bQ] using this
 have h4 : DataW.trod enc Tryz.prog W 0 sp held n 30 [c4] = some y4 := by have := hh 4 _ rfl; simpa [co_uQ] using this
 have h5 : DataW.trod enc Tryz.prog W 0 sp held n 37 [c5] = some y5 := by have := hh 5 _ rfl; simpa [co_psQ] using this
 have h6 : DataW.trod enc Tryz.prog W 0 sp held n 30 [c6] = some y6 := by have := hh 6 _ rfl; simpa [co_uQ] using this
 obtain ⟨e, e0, _, w0⟩ := DataW.trod_int Tryz.underlying36 h0
 obtain ⟨f, e1, _⟩ := DataW.trod_bool Tryz.underlying4 h1
 obtain ⟨z2, e2, _, w2⟩ := DataW.trod_int Tryz.underlying30 h2
 obtain ⟨dn, e3, _⟩ := DataW.trod_bool Tryz.underlying4 h3
 obtain ⟨z4, e4, _, w4⟩ := DataW.trod_int Tryz.underlying30 h4
 obtain ⟨p, c, l, e5, hP, hbl⟩ := pairs_openQ h5
 obtain ⟨z6, e6, _, w6⟩ := DataW.trod_int Tryz.underlying30 h6
 obtain ⟨v, rfl, hv⟩ := nat_u64 w2
 obtain ⟨hd, rfl, hhd⟩ := nat_u64 w4
 obtain ⟨ct, rfl, hct⟩ := nat_u64 w6
 simp at e0 e1 e2 e3 e4 e5 e6
 subst e0 e1 e2 e3 e4 e5 e6
 refine ⟨⟨e, f, v, dn, hd, l, ct⟩, p, c, rfl, hhd, hP, ?_⟩
 have hx1 : x.1 = .agg [y0.1, y1.1, y2.1, y3.1, y4.1, y5.1, y6.1] := by rw [hx]; rfl
 rw [hx1]
 simp only [Rows.uptoBulk, Rows.uptoBulkAll]
 (try simp only at hbl ⊢)
 have q0 := bulk_one y0.1
 have q1 := bulk_one y1.1
 have q2 := bulk_one y2.1
 have q3 := bulk_one y3.1
 have q4 := bulk_one y4.1
 have q5 := bulk_one y5.1
 have q6 := bulk_one y6.1
 omega
theorem mem_le_sum (b : List Nat) (w : Nat) (h : w ∈ b) : w ≤ b.sum := by
 induction b with
 | nil => cases h
 | cons z r ih =>
  rcases List.mem_cons.1 h with e | e
  ·subst e; simp
  ·have := ih e; simp; omega
theorem co_call : Tryz.prog.cellsOf 41 = 20 := by kernel_rfl
theorem call_openQ {H : Type} {enc : TypeId × Value → H} {W : World} {sp : Nat → Bool} {held : Bool} {fuel : Nat} {cs : List Value} {x : DataW H × List MemPlace} (h : DataW.trod enc Tryz.prog W 0 sp held fuel 41 cs = some x) : ∃ z : CallP, cs = z.cs ∧ z.o.Ok ∧ (Lit.int .i64 z.r6).wf = true ∧ (Lit.int .i64 z.r7).wf = true ∧ KeysAt W z.kp z.o.ks ∧ z.o.ks.length + 1 ≤ Rows.uptoBulk x.1 ∧ z.B.h < 18446744073709551616 ∧ PairsAt W z.lp z.B.l ∧ z.B.l.length + 1 ≤ Rows.uptoBulk x.1 ∧ z.hn < 18446744073709551616 ∧ 21 ≤ Rows.uptoBulk x.1 := by
 obtain ⟨xs, n, hn, hx, hl, hlen, hh⟩ := DataW.trod_struct Tryz.underlying41 h
 rw [co_call] at hl
 obtain ⟨y0, y1, y2, y3, rfl⟩ : ∃ c0 c1 c2 c3, xs = [c0, c1, c2, c3] := by
  match xs, (show xs.length = 4 from hlen) with
  | [c0, c1, c2, c3], _ => exact ⟨c0, c1, c2, c3, rfl⟩
 have h0 : DataW.trod enc Tryz.prog W 0 sp held n 4 ((cs.drop 0).take 1) = some y0 := by have := hh 0 _ rfl; simpa [co_bQ] using this
 have h1 : DataW.trod enc Tryz.prog W 0 sp held n 35 ((cs.drop 1).take 11) = some y1 := by have := hh 1 _ rfl; simpa [co_opQ] using this
 have h2 : DataW.trod enc Tryz.prog W 0 sp held n 39 ((cs.drop 12).take 7) = some y2 := by have := hh 2 _ rfl; simpa [co_anQ] using this
 have h3 : DataW.trod enc Tryz.prog W 0 sp held n 30 ((cs.drop 19).take 1) = some y3 := by have := hh 3 _ rfl; simpa [co_uQ] using this
 obtain ⟨tk, e0, _⟩ := DataW.trod_bool Tryz.underlying4 h0
 obtain ⟨o, r5, r6, r7, kp, kc, e1, ho, w6, w7, hk, hkb, ob⟩ := op_openQ h1
 obtain ⟨B, lp, lc, e2, hB, hp, hpb, ab⟩ := ans_openQ h2
 obtain ⟨z3, e3, _, w3⟩ := DataW.trod_int Tryz.underlying30 h3
 obtain ⟨h9, rfl, hh9⟩ := nat_u64 w3
 refine ⟨⟨tk, o, r5, r6, r7, kp, kc, B, lp, lc, h9⟩, ?_, ho, w6, w7, hk, ?_, hB, hp, ?_, hh9, ?_⟩
 ·have s0 := cut_nextQ e0
  have s1 := cut_nextQ e1
  have s2 := cut_nextQ e2
  have s3 := cut_nextQ e3
  have z : cs.drop (19 + 1) = [] := List.drop_eq_nil_of_le (by omega)
  rw [z] at s3
  rw [show 12 + 7 = 19 from rfl, s3] at s2
  rw [show 1 + 11 = 12 from rfl, s2] at s1
  rw [show 0 + 1 = 1 from rfl, s1] at s0
  exact (List.drop_zero (l := cs)).symm.trans s0
 all_goals (
  have hx1 : x.1 = .agg [y0.1, y1.1, y2.1, y3.1] := by rw [hx]; rfl
  rw [hx1]
  simp only [Rows.uptoBulk, Rows.uptoBulkAll]
  have q0 := bulk_one y0.1
  have q3 := bulk_one y3.1
  (try simp only at hkb hpb ⊢)
  omega)
theorem callsS_openQ {H : Type} {enc : TypeId × Value → H} {W : World} {sp : Nat → Bool} {held : Bool} {fuel : Nat} {cs : List Value} {x : DataW H × List MemPlace} (h : DataW.trod enc Tryz.prog W 0 sp held fuel 22 cs = some x) :
    ∃ (p : Option Addr) (c : Nat) (l : List CallP), cs = [.slice p l.length c] ∧ (Rows.uptoBulk x.1 ≤ 1048576 → CallsAtP W p l) ∧ l.length * 21 + 1 ≤ Rows.uptoBulk x.1 := by
 obtain ⟨p, n, c, hcs, bu, hbl, hbs, hr⟩ := slice_rowsSQ (s := 20) (Q := fun w cs => 21 ≤ w ∧ ∃ z : CallP, cs = z.cs ∧ z.o.Ok ∧ (Lit.int .i64 z.r6).wf = true ∧ (Lit.int .i64 z.r7).wf = true ∧ KeysAt W z.kp z.o.ks ∧ z.o.ks.length + 1 ≤ w ∧ z.B.h < 18446744073709551616 ∧ PairsAt W z.lp z.B.l ∧ z.B.l.length + 1 ≤ w ∧ z.hn < 18446744073709551616) Tryz.underlying22 co_call (by decide) (fun fuel cs y hy => by
  obtain ⟨z, e, a1, a2, a3, a4, a5, a6, a7, a8, a9, a10⟩ := call_openQ hy
  exact ⟨⟨a10, z, e, a1, a2, a3, a4, a5, a6, a7, a8, a9⟩, by rw [e]; rfl⟩) h
 rcases hr with rfl | ⟨bk, off, rfl, hbk, hr⟩
 ·exact ⟨p, c, [], hcs, fun _ => .inl rfl, by simpa using bulk_one x.1⟩
 ·obtain ⟨l, hl, hp⟩ := choose_list (P := fun i (z : CallP) => 21 ≤ bu.getD i 0 ∧ (Rows.uptoBulk x.1 ≤ 1048576 → z.Ok W ∧ ∀ (j : Nat) (u : Value), z.cs[j]? = some u → W.cell? ⟨bk, off + i * 20 + j, none⟩ = some u)) n (fun i hi => by
    obtain ⟨cs', ⟨w, hw, h1, z, rfl, a1, a2, a3, a4, a5, a6, a7, a8, a9⟩, hc⟩ := hr i hi
    refine ⟨z, by simp [List.getD, hw]; exact h1, fun hb => ?_⟩
    have hw2 := mem_le_sum bu w (List.mem_of_getElem? hw)
    exact ⟨⟨a1, a2, a3, a4, by omega, a6, a7, by omega, a9⟩, fun j u hj => by rw [Nat.add_assoc]; exact hc j u hj⟩)
  have hsum : ∀ (b : List Nat), (∀ i, i < b.length → 21 ≤ b.getD i 0) → b.length * 21 ≤ b.sum := by
   intro b
   induction b with
   | nil => intro _; simp
   | cons z r ih =>
    intro hb
    have h0 := hb 0 (by simp)
    have h1 := ih (fun i hi => by have := hb (i + 1) (by simp; omega); simpa using this)
    simp only [List.length_cons, List.sum_cons]
    simp at h0
    omega
  have hs := hsum bu (fun i hi => (hp i (l[i]'(by omega)) (List.getElem?_eq_getElem _)).1)
  exact ⟨some ⟨bk, off, none⟩, c, l, by rw [hl]; exact hcs, fun hb => .inr ⟨bk, off, rfl, hbk, fun i z hz => (hp i z hz).2 hb⟩, by omega⟩
theorem calls2_openQ {H : Type} {enc : TypeId × Value → H} {W : World} {sp : Nat → Bool} {held : Bool} {p : Option Addr} {n c : Nat} {d : DataW H} {ps : List MemPlace} (h : DataW.Trod enc Tryz.prog W 0 sp held 22 (.slice p n c) d ps) (hb : Rows.uptoBulk d ≤ 1048576) : ∃ l : List CallP, l.length = n ∧ CallsAtP W p l ∧ l.length * 21 + 1 ≤ Rows.uptoBulk d := by
 obtain ⟨fuel, hf⟩ := h
 obtain ⟨p', c', l, hcs, h1, h2⟩ := callsS_openQ hf
 simp [Value.cells] at hcs
 obtain ⟨rfl, rfl, rfl⟩ := hcs
 exact ⟨l, rfl, h1 hb, h2⟩
theorem co_calls : Tryz.prog.cellsOf 22 = 1 := by kernel_rfl
structure RowP where
 p : Option Addr
 c : Nat
 l : List CallP
def RowsAtP (W : World) (p : Option Addr) (L : List RowP) : Prop := L = [] ∨ ∃ bk off, p = some ⟨bk, off, none⟩ ∧ bk < W.heap.size ∧ ∀ (i : Nat) (x : RowP), L[i]? = some x → CallsAtP W x.p x.l ∧ W.cell? ⟨bk, off + i, none⟩ = some (.slice x.p x.l.length x.c)
theorem rows_openQ {H : Type} {enc : TypeId × Value → H} {W : World} {sp : Nat → Bool} {held : Bool} {p : Option Addr} {n c : Nat} {d : DataW H} {ps : List MemPlace} (h : DataW.Trod enc Tryz.prog W 0 sp held 23 (.slice p n c) d ps) (hb : Rows.uptoBulk d ≤ 1048576) : ∃ L : List RowP, L.length = n ∧ RowsAtP W p L ∧ L.length ≤ 1048576 ∧ ∀ x ∈ L, x.l.length * 21 + 1 ≤ Rows.uptoBulk d := by
 obtain ⟨fuel, hf⟩ := h
 obtain ⟨p', n', c', hcs, bu, hbl, hbs, hr⟩ := slice_rowsSQ (s := 1) (Q := fun w cs => ∃ z : RowP, cs = [.slice z.p z.l.length z.c] ∧ (w ≤ 1048576 → CallsAtP W z.p z.l) ∧ z.l.length * 21 + 1 ≤ w) Tryz.underlying23 co_calls (by decide) (fun fuel cs y hy => by
  obtain ⟨p, c, l, e, a1, a2⟩ := callsS_openQ hy
  exact ⟨⟨⟨p, c, l⟩, e, a1, a2⟩, by rw [e]; rfl⟩) hf
 simp [Value.cells] at hcs
 obtain ⟨rfl, rfl, rfl⟩ := hcs
 have hbs : bu.sum + 1 ≤ Rows.uptoBulk d := hbs
 rcases hr with rfl | ⟨bk, off, rfl, hbk, hr⟩
 ·exact ⟨[], rfl, .inl rfl, by simp, fun x hx => (by cases hx)⟩
 ·have hle : ∀ (i w : Nat), bu[i]? = some w → w ≤ bu.sum := fun i w hw => mem_le_sum bu w (List.mem_of_getElem? hw)
  obtain ⟨l, hl, hp⟩ := choose_list (P := fun i (z : RowP) => 1 ≤ bu.getD i 0 ∧ (CallsAtP W z.p z.l ∧ W.cell? ⟨bk, off + i, none⟩ = some (.slice z.p z.l.length z.c)) ∧ z.l.length * 21 + 1 ≤ Rows.uptoBulk d) n (fun i hi => by
   obtain ⟨cs', ⟨w, hw, z, rfl, a1, a2⟩, hc⟩ := hr i hi
   have hw2 := hle i w hw
   refine ⟨z, by simp [List.getD, hw]; omega, ⟨a1 (by omega), ?_⟩, by omega⟩
   have := hc 0 _ rfl
   simpa using this)
  have hsum : ∀ (b : List Nat), (∀ i, i < b.length → 1 ≤ b.getD i 0) → b.length ≤ b.sum := by
   intro b
   induction b with
   | nil => intro _; simp
   | cons z r ih =>
    intro hb
    have h0 := hb 0 (by simp)
    have h1 := ih (fun i hi => by have := hb (i + 1) (by simp; omega); simpa using this)
    simp only [List.length_cons, List.sum_cons]
    simp at h0
    omega
  have hs := hsum bu (fun i hi => (hp i (l[i]'(by omega)) (List.getElem?_eq_getElem _)).1)
  exact ⟨l, hl, .inr ⟨bk, off, rfl, hbk, fun i z hz => (hp i z hz).2.1⟩, by omega, fun z hz => by
   obtain ⟨i, hi⟩ := List.getElem?_of_mem hz
   exact (hp i z hi).2.2⟩
end Go.Proofs.YtahgaghokpicgaaGreat
namespace Go.Proofs.YtahgaghokpicgaaGreat
open Go.RowKit Go.Maps
set_option linter.unusedVariables false
set_option maxHeartbeats 16000000
theorem FBoth.low {nw1 hd1 r1 nw2 hd2 r2 B : Nat} (h1 : B ≤ nw1 ∧ B ≤ hd1 ∧ B ≤ r1) (h2 : B ≤ nw2 ∧ B ≤ hd2 ∧ B ≤ r2) : ∀ i, FBoth nw1 hd1 r1 nw2 hd2 r2 i → B ≤ i := by
 intro i x
 rcases x with x | x <;> rcases x with x | x | x <;> omega
theorem pick9 (L : List RowP) (j k : Nat) : L.length ≤ j ∨ (∃ x, L[j]? = some x ∧ x.l.length ≤ k ∧ j < L.length) ∨ ∃ x y, L[j]? = some x ∧ x.l[k]? = some y ∧ k < x.l.length ∧ j < L.length := by
 by_cases h : j < L.length
 ·by_cases h2 : k < (L[j]).l.length
  ·exact .inr (.inr ⟨_, _, List.getElem?_eq_getElem h, List.getElem?_eq_getElem h2, h2, h⟩)
  ·exact .inr (.inl ⟨_, List.getElem?_eq_getElem h, by omega, h⟩)
 ·exact .inl (by omega)
theorem wpList_load_midG {P : Program} {ops : Array Oper} {rest : List Oper} {op : Oper} {a : Act} {w : World} {Q : Exit → Act → World → Prop} (hw : Region.wanted op (yielded ops a.tmps) = true) (ty : TypeId) (x : Operand) (ho : op.op = .load ty x)
    (b o : Nat) (hx : a.eval x = .pointer (some ⟨b, o, none⟩)) (cs : List Value) (d : TypeDesc) (hc : w.rangeAt b o cs)
    (hu : P.underlying ty = some d) (hd : d.isRow = true) (hi : (P.info? ty).map (·.size) = some cs.length)
    (h : wpList P ops Q rest (a.put op.dst (.agg cs.toArray)) w) : wpList P ops Q (op :: rest) a w :=
 BigFrame.wpList_want hw fun _ hK => wp_load_mid ty x ho b o hx cs d hc hu hd hi (hK _ _ h)
theorem RowsAtP.get {W w : World} {F : Nat → Prop} {p : Option Addr} {L : List RowP} (h : RowsAtP W p L) (c : Chg F W w) (hF : ∀ i, F i → W.heap.size ≤ i) (j : Nat) (x : RowP) (hx : L[j]? = some x) : ∃ bk off, p = some ⟨bk, off, none⟩ ∧ w.cell? ⟨bk, off + j, none⟩ = some (.slice x.p x.l.length x.c) ∧ CallsAtP W x.p x.l := by
 rcases h with e | ⟨bk, off, e, hb, h⟩
 ·rw [e] at hx; cases hx
 ·obtain ⟨a, b⟩ := h j x hx
  exact ⟨bk, off, e, cell_chg c b (fun x => by have := hF _ x; simp only at this; omega), a⟩
theorem CallsAtP.get {W w : World} {F : Nat → Prop} {p : Option Addr} {l : List CallP} (h : CallsAtP W p l) (c : Chg F W w) (hF : ∀ i, F i → W.heap.size ≤ i) (i : Nat) (x : CallP) (hx : l[i]? = some x) : ∃ bk off, p = some ⟨bk, off, none⟩ ∧ w.rangeAt bk (off + i * 20) x.cs ∧ x.Ok W := by
 rcases h with e | ⟨bk, off, e, hb, h⟩
 ·rw [e] at hx; cases hx
 ·obtain ⟨a, b⟩ := h i x hx
  exact ⟨bk, off, e, rangeP (fun j u hj => cell_chg c (b j u hj) (fun x => by have := hF _ x; simp only at this; omega)), a⟩
set_option maxRecDepth 100000 in
theorem fork_walk (multi : Int) (p : Option Addr) (c : Nat) (l : List CallP) (p2 : Option Addr) (c2 : Nat) (L : List RowP) (W : World) (hO : CallsAtP W p l) (hQ : RowsAtP W p2 L) (hl : l.length ≤ 50000) (hL : L.length ≤ 1048576) (hLs : ∀ x ∈ L, l.length + x.l.length ≤ 50000) :
    Calls Tryz.prog 3 #[.int .i64 multi, .slice p l.length c, .slice p2 L.length c2] W fun e W' => e = .returned (.bool true) ∧ Chg (fun k => W.heap.size ≤ k) W W' := by
 have HL := keepH (live_06 W)
 have HO := keepH hO
 have HQ := keepH hQ
 obtain ⟨N, hN⟩ : ∃ N, N = l.length := ⟨_, rfl⟩
 obtain ⟨M, hM⟩ : ∃ M, M = L.length := ⟨_, rfl⟩
 have hN2 : N ≤ 50000 := by omega
 have hM2 : M ≤ 1048576 := by omega
 have HNN : Hid (N = l.length ∧ M = L.length ∧ ∀ x ∈ L, N + x.l.length ≤ 50000) := ⟨hN, hM, by rw [hN]; exact hLs⟩
 rw [← hN, ← hM]
 clear hO hQ hl hL hLs hN hM
 go_enter Tryz.func3, Tryz.ntmps3
 go_wp2_with fail
 refine HL.out.mono ?_
 rintro e w1 ⟨rfl, C1⟩
 have HC1 := keepH C1
 clear C1 HL
 go_wp2_with fail
 by_cases hm : multi < 1 ∨ 1024 < multi
 ·refine (begun_no multi hm w1).mono ?_
  rintro e w2 ⟨rfl, rfl⟩
  go_wp2_with fail
  go_ret
  exact ⟨by simp, HC1.out.mono (fun _ _ x => x.elim)⟩
 ·obtain ⟨mu, rfl⟩ : ∃ mu : Nat, multi = (mu : Int) := ⟨multi.toNat, by omega⟩
  have HMU : Hid (mu ≤ 1024) := by show _ ≤ _; omega
  refine (begun_yes mu (by omega) (by omega) w1).mono ?_
  rintro e w2 ⟨⟨b, m, nw, hd, r, rfl, hT, h1, h2, h3⟩, C2⟩
  have HT := keepH hT
  have HC2 : Hid (Chg (fun _ => False) W w2) := chgF HC1.out C2
  have HLB : Hid (W.heap.size ≤ nw ∧ W.heap.size ≤ hd ∧ W.heap.size ≤ r) := by have := HC1.out.size; exact ⟨by omega, by omega, by omega⟩
  clear hT h1 h2 h3 C2 hm HC1
  go_wp2_with fail
  go_loopw [9] (fun s9 wr => ∃ i : Nat, i ≤ N ∧ s9 = .int .i64 i ∧ Hid (TwoAt wr b m nw hd r mu i ∧ Chg (FTwo nw hd r) W wr)) (fun s9 _ => N - (intOf s9).toNat)
  case atStart => exact ⟨0, Nat.zero_le _, rfl, HT.out, HC2.out.mono (fun _ _ x => x.elim)⟩
  case round =>
   obtain ⟨i, hil, rfl, HX⟩ := hrel
   by_cases hlt : i < N
   ·have q1 : (i : Int) < (N : Int) := by omega
    have q0 : (0 : Int) ≤ (i : Int) := by omega
    obtain ⟨x, hx⟩ : ∃ x, l[i]? = some x := ⟨l[i]'(by have := HNN.out; omega), List.getElem?_eq_getElem _⟩
    obtain ⟨bk, off, rfl, hr, hok⟩ := HO.out.get HX.out.2 (fun i h => by have := HLB.out; rcases h with h | h | h <;> omega) i x hx
    have HK := keepH (two_call HX.out.1 HMU.out (by omega) hok HX.out.2 HLB.out)
    have HR := keepH hr
    clear hx hok hr
    go_upto_region 9 with fail
    iterate 13 go_step
    skip
    refine wpList_load_mid rfl _ _ rfl bk (off + i * 20) rfl x.cs _ HR.out Tryz.underlying41 rfl (by kernel_rfl) ?_
    (try simp only [Act.put]); (try simp only [List.setIfInBounds_toArray]); (repeat (first | simp only [List.set_cons_succ] | simp only [List.set_cons_zero]))
    rw [show x.cs.toArray = #[.bool x.tk, .int .u8 x.o.kd, .int .u64 x.o.k, .int .u64 x.o.v, .int .u64 x.o.od, .int .u64 x.o.hk, .bool x.r5, .int .i64 x.r6, .int .i64 x.r7, .slice x.kp x.o.ks.length x.kc, .int .u64 x.o.lo, .int .u64 x.o.hi, .int .i64 x.B.e, .bool x.B.f, .int .u64 x.B.x, .bool x.B.d, .int .u64 x.B.h, .slice x.lp x.B.l.length x.lc, .int .u64 x.B.n, .int .u64 x.hn] from rfl]
    skip
    go_wp2_with fail
    skip
    refine HK.out.mono ?_
    rintro e w4 ⟨rfl, hT4, C4⟩
    have HX5 : Hid (TwoAt w4 b m nw hd r mu (i + 1) ∧ Chg (FTwo nw hd r) W w4) := ⟨hT4, HX.out.2.trans C4 (fun _ _ x => x) (fun _ _ x => x)⟩
    clear C4 HK hT4 HR
    go_wp2_with fail
    go_roundw
    case rel => exact ⟨i + 1, by omega, by first | rfl | go_num, HX5⟩
    case measure => simp [intOf]; omega
   ·obtain rfl : i = N := by omega
    have q1 : ¬ (i : Int) < (i : Int) := by omega
    clear hlt
    go_upto_region 11 with fail
    have hS : ∀ w, Chg (fun _ => False) wr w → w.cell? ⟨b, 0, none⟩ = some (.pointer (some ⟨m, 0, none⟩)) ∧ w.cell? ⟨b, 1, none⟩ = some (.pointer (some ⟨r, 0, none⟩)) := fun w cw => ⟨cell_of (HX.out.1.quiet cw).both 0, cell_of (HX.out.1.quiet cw).both 1⟩
    have HWS : Hid (W.heap.size ≤ wr.heap.size) := HX.out.2.size
    have HFM : ∀ w, Chg (fun _ => False) wr w → Hid (Calls Tryz.prog 8 #[.pointer (some ⟨m, 0, none⟩)] w fun e w' => (∃ m' nw' hd', e = .returned (.pointer (some ⟨m', 0, none⟩)) ∧ Hid (wr.heap.size ≤ w.heap.size ∧ Fk1 w w' b m nw hd r mu i m' nw' hd')) ∧ Chg (fun _ => False) wr w') := fun w cw => (fork_m (HX.out.1.quiet cw)).mono (fun e w' hh => by
     obtain ⟨⟨m', nw', hd', rfl, h⟩, hc⟩ := hh
     exact ⟨⟨m', nw', hd', rfl, cw.size, h⟩, cw.trans hc (fun _ _ x => x) (fun _ _ x => x)⟩)
    have C0 : Chg (fun _ => False) wr wr := Chg.refl _ _
    have Cd : Chg (fun _ => False) wr wr.drew := C0.drew
    go_region_held3 (fun w' => w'.cell? ⟨b, 0, none⟩ = some (.pointer (some ⟨m, 0, none⟩)) ∧ w'.cell? ⟨b, 1, none⟩ = some (.pointer (some ⟨r, 0, none⟩))) (first | exact hS _ (by assumption) | exact hS _ (Chg.alloc (by assumption) _))
     (first | (go_at_call 8; refine (HFM _ (by assumption)).out.mono ?_; rintro e z1 ⟨⟨m', nw', hd', rfl, HF1⟩, hz1⟩) | (go_at_call 9; refine (fork_r HF1.out.2 (by omega)).mono ?_; rintro e z2 ⟨⟨r', rfl, hF2⟩, hz2⟩; have HF2 := keepH hF2; replace hz2 := hz1.trans hz2 (fun _ _ x => x) (fun _ _ x => x); clear hF2))
    obtain ⟨w3, hw3⟩ : ∃ w3, w3 = z2.alloc (.cells #[.pointer (some ⟨m', 0, none⟩), .pointer (some ⟨r', 0, none⟩)] 45) := ⟨_, rfl⟩
    obtain ⟨b', hb'⟩ : ∃ b', b' = z2.heap.size := ⟨_, rfl⟩
    have HP : Hid (Pair9 w3 b m nw hd r b' m' nw' hd' r' mu i i ∧ ∀ w, Chg (fun _ => False) w3 w → Calls Tryz.prog 10 #[.pointer (some ⟨m, 0, none⟩), .pointer (some ⟨m', 0, none⟩)] w fun e w' => e = .returned (.bool true) ∧ Chg (fun _ => False) w w') := by
     rw [hw3, hb']
     exact HF2.out.pair
    have HLB2 : Hid (W.heap.size ≤ nw' ∧ W.heap.size ≤ hd' ∧ W.heap.size ≤ r') := by
     have q1 := HF2.out.2.2.1
     have q2 := HF1.out.1
     have q3 := HWS.out
     exact ⟨by omega, by omega, by omega⟩
    have HC3 : Hid (Chg (FTwo nw hd r) W w3) := by
     rw [hw3]
     exact (HX.out.2.trans (hz2.mono (fun _ _ x => x.elim)) (fun _ _ x => x) (fun _ _ x => x)).alloc _
    (try rw [← hb'])
    (try rw [← hw3])
    clear hS HFM C0 Cd hz1 hz2 HF1 HF2 hb' hw3 HWS HX HT HC2
    have hS : ∀ w, Chg (fun _ => False) w3 w → w.cell? ⟨b, 0, none⟩ = some (.pointer (some ⟨m, 0, none⟩)) ∧ w.cell? ⟨b', 0, none⟩ = some (.pointer (some ⟨m', 0, none⟩)) := fun w cw => ⟨cell_of (HP.out.1.a.quiet cw).both 0, cell_of (HP.out.1.b.quiet cw).both 0⟩
    have HSM : ∀ w, Chg (fun _ => False) w3 w → Hid (Calls Tryz.prog 10 #[.pointer (some ⟨m, 0, none⟩), .pointer (some ⟨m', 0, none⟩)] w fun e w' => e = .returned (.bool true) ∧ Chg (fun _ => False) w3 w') := fun w cw => (HP.out.2 w cw).mono (fun e w' hh => ⟨hh.1, cw.trans hh.2 (fun _ _ x => x) (fun _ _ x => x)⟩)
    have HAL : ∀ w, Chg (fun _ => False) w3 w → Hid (Calls Tryz.prog 11 #[.pointer (some ⟨b', 0, none⟩)] w fun e w' => e = .returned (.bool true) ∧ Chg (fun _ => False) w3 w') := fun w cw => (two_alike (HP.out.1.b.quiet cw).at_ (by omega)).mono (fun e w' hh => ⟨hh.1, cw.trans hh.2 (fun _ _ x => x) (fun _ _ x => x)⟩)
    have C0 : Chg (fun _ => False) w3 w3 := Chg.refl _ _
    have Cd : Chg (fun _ => False) w3 w3.drew := C0.drew
    go_upto_region 12 with fail
    go_region_held3 (fun w' => w'.cell? ⟨b, 0, none⟩ = some (.pointer (some ⟨m, 0, none⟩)) ∧ w'.cell? ⟨b', 0, none⟩ = some (.pointer (some ⟨m', 0, none⟩))) (first | exact hS _ (by assumption))
     (first | (go_at_call 10; refine (HSM _ (by assumption)).out.mono ?_; rintro e z1 ⟨rfl, hz1⟩) | (go_at_call 11; refine (HAL _ (by assumption)).out.mono ?_; rintro e z2 ⟨rfl, hz2⟩))
    have HP2 : Hid (Pair9 z2 b m nw hd r b' m' nw' hd' r' mu i i ∧ Chg (FTwo nw hd r) W z2) := ⟨HP.out.1.quiet hz2, HC3.out.trans (hz2.mono (fun _ _ x => x.elim)) (fun _ _ x => x) (fun _ _ x => x)⟩
    clear hS HSM HAL C0 Cd hz1 hz2 HP HC3
    go_wp2_with fail
    go_loopw [11, 12] (fun s11 s12 wr => ∃ (nx j : Nat), j ≤ M ∧ s12 = .int .i64 j ∧ s11 = .int .i64 nx ∧ Hid (i + nx ≤ 50000) ∧ wr = z2) (fun _ s12 _ => M - (intOf s12).toNat)
    case atStart => exact ⟨0, 0, Nat.zero_le _, rfl, rfl, (show i + 0 ≤ 50000 by omega), rfl⟩
    case round =>
     obtain ⟨nx, j, hj, rfl, rfl, HNX, rfl⟩ := hrel
     by_cases hlt : j < M
     ·have q1 : (j : Int) < (M : Int) := by omega
      have q0 : (0 : Int) ≤ (j : Int) := by omega
      obtain ⟨x, hx⟩ : ∃ x, L[j]? = some x := ⟨L[j]'(by have := HNN.out.2.1; omega), List.getElem?_eq_getElem _⟩
      obtain ⟨bk, off, rfl, hr, hok⟩ := HQ.out.get HP2.out.2 (fun i h => by have := HLB.out; rcases h with h | h | h <;> omega) j x hx
      have hxl := HNN.out.2.2 x (List.mem_of_getElem? hx)
      obtain ⟨nl, hnl⟩ : ∃ n, n = x.l.length := ⟨_, rfl⟩
      rw [← hnl] at hr hxl
      clear hx hok hnl
      by_cases hg : nx < nl
      ·have g1 : (nl : Int) > (nx : Int) := by omega
       have g2 : (nx : Int) < (nl : Int) := by omega
       go_wp2_with fail
       go_roundw
       case rel => exact ⟨nl, j + 1, by omega, by first | rfl | go_num, by first | rfl | go_num, (show i + nl ≤ 50000 by omega), by simp⟩
       case measure => simp [intOf]; omega
      ·have g1 : ¬ (nl : Int) > (nx : Int) := by omega
       have g2 : ¬ (nx : Int) < (nl : Int) := by omega
       go_wp2_with fail
       go_roundw
       case rel => exact ⟨nx, j + 1, by omega, by first | rfl | go_num, by first | rfl | go_num, HNX, by simp⟩
       case measure => simp [intOf]; omega
     ·obtain rfl : M = j := by omega
      have q1 : ¬ (M : Int) < (M : Int) := by omega
      clear hlt
      go_wp2_with fail
      have hnx : nx ≤ 50000 := by have := HNX.out; omega
      go_loopw [13] (fun s13 wr => ∃ k : Nat, k ≤ nx ∧ s13 = .int .i64 k ∧ Hid (Pair9 wr b m nw hd r b' m' nw' hd' r' mu (i + k) (i + k) ∧ Chg (FBoth nw hd r nw' hd' r') W wr)) (fun s13 _ => nx - (intOf s13).toNat)
      case atStart => exact ⟨0, Nat.zero_le _, rfl, HP2.out.1, HP2.out.2.mono (fun _ _ x => .inl x)⟩
      case round =>
       obtain ⟨k, hk, rfl, HX⟩ := hrel
       by_cases hlt : k < nx
       ·have q1 : (k : Int) < (nx : Int) := by omega
        have q0 : (0 : Int) ≤ (k : Int) := by omega
        clear hlt
        go_upto_region 23 with fail
        go_cut [143] from 98 to 142 (fun s143 wz => s143 = .bool false ∧ Hid (Pair9 wz b m nw hd r b' m' nw' hd' r' mu (i + (k + 1)) (i + (k + 1)) ∧ Chg (FBoth nw hd r nw' hd' r') W wz))
        case first =>
         rcases pick9 L 0 k with ha0 | ⟨x0, hx0, hq0, hj0⟩ | ⟨x0, y0, hx0, hy0, hq0, hj0⟩
         ·skip
          have a0 : ¬ (M : Int) > 0 := by have := HNN.out.2.1; omega
          have a0' : ¬ 0 < (M : Int) := by omega
          have HXA : Hid (Pair9 wr b m nw hd r b' m' nw' hd' r' mu (i + (k + 1)) (i + k) ∧ Chg (FBoth nw hd r nw' hd' r') W wr) := ⟨HX.out.1.mono (by omega) (by omega), HX.out.2⟩
          have hb0 : ¬ (M : Int) > 1 := by omega
          have hb0' : ¬ 1 < (M : Int) := by omega
          have HXB : Hid (Pair9 wr b m nw hd r b' m' nw' hd' r' mu (i + (k + 1)) (i + (k + 1)) ∧ Chg (FBoth nw hd r nw' hd' r') W wr) := ⟨HXA.out.1.mono (by omega) (by omega), HXA.out.2⟩
          go_wp2_with fail
          go_meet
          case rel => exact ⟨rfl, HXB⟩
         ·skip
          obtain ⟨bk0, off0, he0, hr0, hc0⟩ := HQ.out.get HX.out.2 (fun q h => FBoth.low HLB.out HLB2.out q h) 0 x0 hx0
          first | subst he0 | (injection he0 with he; injection he with he he'; subst he he')
          rw [Nat.add_zero] at hr0
          obtain ⟨nl0, hnl0⟩ : ∃ n, n = x0.l.length := ⟨_, rfl⟩
          rw [← hnl0] at hr0 hq0
          have g0 : ¬ (k : Int) < (nl0 : Int) := by omega
          have hM0 : (M : Int) > 0 := by have := HNN.out.2.1; omega
          have hM0' : 0 < (M : Int) := by omega
          have hM0'' : ((0 : Nat) : Int) < (M : Int) := by omega
          have HXA : Hid (Pair9 wr b m nw hd r b' m' nw' hd' r' mu (i + (k + 1)) (i + k) ∧ Chg (FBoth nw hd r nw' hd' r') W wr) := ⟨HX.out.1.mono (by omega) (by omega), HX.out.2⟩
          clear hc0 hnl0 hx0
          rcases pick9 L 1 k with hb0 | ⟨x1, hx1, hq1, hj1⟩ | ⟨x1, y1, hx1, hy1, hq1, hj1⟩
          ·skip
           have a1 : ¬ (M : Int) > 1 := by have := HNN.out.2.1; omega
           have a1' : ¬ 1 < (M : Int) := by omega
           have HXB : Hid (Pair9 wr b m nw hd r b' m' nw' hd' r' mu (i + (k + 1)) (i + (k + 1)) ∧ Chg (FBoth nw hd r nw' hd' r') W wr) := ⟨HXA.out.1.mono (by omega) (by omega), HXA.out.2⟩
           go_wp2_with fail
           go_meet
           case rel => exact ⟨rfl, HXB⟩
          ·skip
           obtain ⟨bk1, off1, he1, hr1, hc1⟩ := HQ.out.get HXA.out.2 (fun q h => FBoth.low HLB.out HLB2.out q h) 1 x1 hx1
           first | subst he1 | (injection he1 with he; injection he with he he'; subst he he')
           obtain ⟨nl1, hnl1⟩ : ∃ n, n = x1.l.length := ⟨_, rfl⟩
           rw [← hnl1] at hr1 hq1
           have g1 : ¬ (k : Int) < (nl1 : Int) := by omega
           have hM1 : (M : Int) > 1 := by have := HNN.out.2.1; omega
           have hM1' : 1 < (M : Int) := by omega
           have hM1'' : ((1 : Nat) : Int) < (M : Int) := by omega
           have HXB : Hid (Pair9 wr b m nw hd r b' m' nw' hd' r' mu (i + (k + 1)) (i + (k + 1)) ∧ Chg (FBoth nw hd r nw' hd' r') W wr) := ⟨HXA.out.1.mono (by omega) (by omega), HXA.out.2⟩
           clear hc1 hnl1 hx1
           go_wp2_with fail
           go_meet
           case rel => exact ⟨rfl, HXB⟩
          ·skip
           obtain ⟨bk1, off1, he1, hr1, hc1⟩ := HQ.out.get HXA.out.2 (fun q h => FBoth.low HLB.out HLB2.out q h) 1 x1 hx1
           first | subst he1 | (injection he1 with he; injection he with he he'; subst he he')
           obtain ⟨ck1, cf1, hp1, hg1, hok1⟩ := hc1.get HXA.out.2 (fun q h => FBoth.low HLB.out HLB2.out q h) k y1 hy1
           have HK1 := keepH (HXA.out.1.callB HMU.out (by have := HNX.out; omega) hok1 HXA.out.2 (fun q h => FBoth.low HLB.out HLB2.out q h) HLB2.out)
           have HR1 := keepH hg1
           obtain ⟨nl1, hnl1⟩ : ∃ n, n = x1.l.length := ⟨_, rfl⟩
           rw [hp1, ← hnl1] at hr1
           have g1 : (k : Int) < (nl1 : Int) := by omega
           have hM1 : (M : Int) > 1 := by have := HNN.out.2.1; omega
           have hM1' : 1 < (M : Int) := by omega
           have hM1'' : ((1 : Nat) : Int) < (M : Int) := by omega
           clear hc1 hok1 hg1 hp1 hnl1 hx1 hy1
           go_wp2_with (first | (refine wpList_load_midG (by rfl) _ _ rfl ck1 (cf1 + k * 20) rfl y1.cs _ HR1.out Tryz.underlying41 rfl (by kernel_rfl) ?_; rw [show y1.cs.toArray = #[.bool y1.tk, .int .u8 y1.o.kd, .int .u64 y1.o.k, .int .u64 y1.o.v, .int .u64 y1.o.od, .int .u64 y1.o.hk, .bool y1.r5, .int .i64 y1.r6, .int .i64 y1.r7, .slice y1.kp y1.o.ks.length y1.kc, .int .u64 y1.o.lo, .int .u64 y1.o.hi, .int .i64 y1.B.e, .bool y1.B.f, .int .u64 y1.B.x, .bool y1.B.d, .int .u64 y1.B.h, .slice y1.lp y1.B.l.length y1.lc, .int .u64 y1.B.n, .int .u64 y1.hn] from rfl]) | fail)
           refine HK1.out.mono ?_
           rintro e w5 ⟨rfl, hT, hC⟩
           have HXw5 : Hid (Pair9 w5 b m nw hd r b' m' nw' hd' r' mu (i + (k + 1)) (i + (k + 1)) ∧ Chg (FBoth nw hd r nw' hd' r') W w5) := ⟨hT, HXA.out.2.trans hC (fun _ _ x => x) (fun _ _ x => x)⟩
           clear HK1 hT hC HR1 hr1
           go_wp2_with fail
           go_meet
           case rel => exact ⟨rfl, HXw5⟩
         ·skip
          obtain ⟨bk0, off0, he0, hr0, hc0⟩ := HQ.out.get HX.out.2 (fun q h => FBoth.low HLB.out HLB2.out q h) 0 x0 hx0
          first | subst he0 | (injection he0 with he; injection he with he he'; subst he he')
          rw [Nat.add_zero] at hr0
          obtain ⟨ck0, cf0, hp0, hg0, hok0⟩ := hc0.get HX.out.2 (fun q h => FBoth.low HLB.out HLB2.out q h) k y0 hy0
          have HK0 := keepH (HX.out.1.callA HMU.out (by have := HNX.out; omega) hok0 HX.out.2 (fun q h => FBoth.low HLB.out HLB2.out q h) HLB.out)
          have HR0 := keepH hg0
          obtain ⟨nl0, hnl0⟩ : ∃ n, n = x0.l.length := ⟨_, rfl⟩
          rw [hp0, ← hnl0] at hr0
          have g0 : (k : Int) < (nl0 : Int) := by omega
          have hM0 : (M : Int) > 0 := by have := HNN.out.2.1; omega
          have hM0' : 0 < (M : Int) := by omega
          have hM0'' : ((0 : Nat) : Int) < (M : Int) := by omega
          clear hc0 hok0 hg0 hp0 hnl0 hx0 hy0
          go_wp2_with (first | (refine wpList_load_midG (by rfl) _ _ rfl ck0 (cf0 + k * 20) rfl y0.cs _ HR0.out Tryz.underlying41 rfl (by kernel_rfl) ?_; rw [show y0.cs.toArray = #[.bool y0.tk, .int .u8 y0.o.kd, .int .u64 y0.o.k, .int .u64 y0.o.v, .int .u64 y0.o.od, .int .u64 y0.o.hk, .bool y0.r5, .int .i64 y0.r6, .int .i64 y0.r7, .slice y0.kp y0.o.ks.length y0.kc, .int .u64 y0.o.lo, .int .u64 y0.o.hi, .int .i64 y0.B.e, .bool y0.B.f, .int .u64 y0.B.x, .bool y0.B.d, .int .u64 y0.B.h, .slice y0.lp y0.B.l.length y0.lc, .int .u64 y0.B.n, .int .u64 y0.hn] from rfl]) | fail)
          refine HK0.out.mono ?_
          rintro e w4 ⟨rfl, hT, hC⟩
          have HXw4 : Hid (Pair9 w4 b m nw hd r b' m' nw' hd' r' mu (i + (k + 1)) (i + k) ∧ Chg (FBoth nw hd r nw' hd' r') W w4) := ⟨hT, HX.out.2.trans hC (fun _ _ x => x) (fun _ _ x => x)⟩
          clear HK0 hT hC HR0 hr0
          rcases pick9 L 1 k with hb0 | ⟨x1, hx1, hq1, hj1⟩ | ⟨x1, y1, hx1, hy1, hq1, hj1⟩
          ·skip
           have a1 : ¬ (M : Int) > 1 := by have := HNN.out.2.1; omega
           have a1' : ¬ 1 < (M : Int) := by omega
           have HXB : Hid (Pair9 w4 b m nw hd r b' m' nw' hd' r' mu (i + (k + 1)) (i + (k + 1)) ∧ Chg (FBoth nw hd r nw' hd' r') W w4) := ⟨HXw4.out.1.mono (by omega) (by omega), HXw4.out.2⟩
           go_wp2_with fail
           go_meet
           case rel => exact ⟨rfl, HXB⟩
          ·skip
           obtain ⟨bk1, off1, he1, hr1, hc1⟩ := HQ.out.get HXw4.out.2 (fun q h => FBoth.low HLB.out HLB2.out q h) 1 x1 hx1
           first | subst he1 | (injection he1 with he; injection he with he he'; subst he he')
           obtain ⟨nl1, hnl1⟩ : ∃ n, n = x1.l.length := ⟨_, rfl⟩
           rw [← hnl1] at hr1 hq1
           have g1 : ¬ (k : Int) < (nl1 : Int) := by omega
           have hM1 : (M : Int) > 1 := by have := HNN.out.2.1; omega
           have hM1' : 1 < (M : Int) := by omega
           have hM1'' : ((1 : Nat) : Int) < (M : Int) := by omega
           have HXB : Hid (Pair9 w4 b m nw hd r b' m' nw' hd' r' mu (i + (k + 1)) (i + (k + 1)) ∧ Chg (FBoth nw hd r nw' hd' r') W w4) := ⟨HXw4.out.1.mono (by omega) (by omega), HXw4.out.2⟩
           clear hc1 hnl1 hx1
           go_wp2_with fail
           go_meet
           case rel => exact ⟨rfl, HXB⟩
          ·skip
           obtain ⟨bk1, off1, he1, hr1, hc1⟩ := HQ.out.get HXw4.out.2 (fun q h => FBoth.low HLB.out HLB2.out q h) 1 x1 hx1
           first | subst he1 | (injection he1 with he; injection he with he he'; subst he he')
           obtain ⟨ck1, cf1, hp1, hg1, hok1⟩ := hc1.get HXw4.out.2 (fun q h => FBoth.low HLB.out HLB2.out q h) k y1 hy1
           have HK1 := keepH (HXw4.out.1.callB HMU.out (by have := HNX.out; omega) hok1 HXw4.out.2 (fun q h => FBoth.low HLB.out HLB2.out q h) HLB2.out)
           have HR1 := keepH hg1
           obtain ⟨nl1, hnl1⟩ : ∃ n, n = x1.l.length := ⟨_, rfl⟩
           rw [hp1, ← hnl1] at hr1
           have g1 : (k : Int) < (nl1 : Int) := by omega
           have hM1 : (M : Int) > 1 := by have := HNN.out.2.1; omega
           have hM1' : 1 < (M : Int) := by omega
           have hM1'' : ((1 : Nat) : Int) < (M : Int) := by omega
           clear hc1 hok1 hg1 hp1 hnl1 hx1 hy1
           go_wp2_with (first | (refine wpList_load_midG (by rfl) _ _ rfl ck1 (cf1 + k * 20) rfl y1.cs _ HR1.out Tryz.underlying41 rfl (by kernel_rfl) ?_; rw [show y1.cs.toArray = #[.bool y1.tk, .int .u8 y1.o.kd, .int .u64 y1.o.k, .int .u64 y1.o.v, .int .u64 y1.o.od, .int .u64 y1.o.hk, .bool y1.r5, .int .i64 y1.r6, .int .i64 y1.r7, .slice y1.kp y1.o.ks.length y1.kc, .int .u64 y1.o.lo, .int .u64 y1.o.hi, .int .i64 y1.B.e, .bool y1.B.f, .int .u64 y1.B.x, .bool y1.B.d, .int .u64 y1.B.h, .slice y1.lp y1.B.l.length y1.lc, .int .u64 y1.B.n, .int .u64 y1.hn] from rfl]) | fail)
           refine HK1.out.mono ?_
           rintro e w5 ⟨rfl, hT, hC⟩
           have HXw5 : Hid (Pair9 w5 b m nw hd r b' m' nw' hd' r' mu (i + (k + 1)) (i + (k + 1)) ∧ Chg (FBoth nw hd r nw' hd' r') W w5) := ⟨hT, HXw4.out.2.trans hC (fun _ _ x => x) (fun _ _ x => x)⟩
           clear HK1 hT hC HR1 hr1
           go_wp2_with fail
           go_meet
           case rel => exact ⟨rfl, HXw5⟩
        case rest =>
         obtain ⟨rfl, hcut⟩ := hcut
         obtain ⟨wz, hwz⟩ : ∃ wz, wz = wc := ⟨_, rfl⟩
         rw [← hwz] at hcut ⊢
         clear hwz
         have HXZ := keepH hcut.out
         clear hcut
         have hQS : i + (k + 1) ≤ 50000 := by have := HNX.out; omega
         obtain ⟨S, hs1, hs2, hs3⟩ := HXZ.out.1.same (by omega) (by omega)
         have HS1 : ∀ w, Chg (fun _ => False) wz w → Hid (Calls Tryz.prog 10 #[.pointer (some ⟨m, 0, none⟩), .pointer (some ⟨m', 0, none⟩)] w fun e w' => e = .returned (.bool S) ∧ Chg (fun _ => False) wz w') := hs1
         have HS2 : ∀ w, Chg (fun _ => False) wz w → Hid (Calls Tryz.prog 10 #[.pointer (some ⟨m', 0, none⟩), .pointer (some ⟨m, 0, none⟩)] w fun e w' => e = .returned (.bool S) ∧ Chg (fun _ => False) wz w') := hs2
         have HS3 : ∀ w, Chg (fun _ => False) wz w → Hid (Calls Tryz.prog 12 #[.pointer (some ⟨r, 0, none⟩), .pointer (some ⟨r', 0, none⟩)] w fun e w' => e = .returned (.bool S) ∧ Chg (fun _ => False) wz w') := hs3
         have hS : ∀ w, Chg (fun _ => False) wz w → w.cell? ⟨b, 0, none⟩ = some (.pointer (some ⟨m, 0, none⟩)) ∧ w.cell? ⟨b, 1, none⟩ = some (.pointer (some ⟨r, 0, none⟩)) ∧ w.cell? ⟨b', 0, none⟩ = some (.pointer (some ⟨m', 0, none⟩)) ∧ w.cell? ⟨b', 1, none⟩ = some (.pointer (some ⟨r', 0, none⟩)) := fun w cw => ⟨cell_of (HXZ.out.1.a.quiet cw).both 0, cell_of (HXZ.out.1.a.quiet cw).both 1, cell_of (HXZ.out.1.b.quiet cw).both 0, cell_of (HXZ.out.1.b.quiet cw).both 1⟩
         have C0 : Chg (fun _ => False) wz wz := Chg.refl _ _
         have Cd : Chg (fun _ => False) wz wz.drew := C0.drew
         have hbb : (S != S) = false := by cases S <;> rfl
         clear hs1 hs2 hs3
         go_upto_region 25 with fail
         go_region_held3 (fun w' => w'.cell? ⟨b, 0, none⟩ = some (.pointer (some ⟨m, 0, none⟩)) ∧ w'.cell? ⟨b, 1, none⟩ = some (.pointer (some ⟨r, 0, none⟩)) ∧ w'.cell? ⟨b', 0, none⟩ = some (.pointer (some ⟨m', 0, none⟩)) ∧ w'.cell? ⟨b', 1, none⟩ = some (.pointer (some ⟨r', 0, none⟩))) (first | exact hS _ (by assumption))
          (first | (go_at_call 10; refine (HS1 _ (by assumption)).out.mono ?_; rintro e z1 ⟨rfl, hz1⟩; clear HS1) | (go_at_call 10; refine (HS2 _ (by assumption)).out.mono ?_; rintro e z1 ⟨rfl, hz1⟩) | (go_at_call 12; refine (HS3 _ (by assumption)).out.mono ?_; rintro e z1 ⟨rfl, hz1⟩))
         have HX9 : Hid (Pair9 z1 b m nw hd r b' m' nw' hd' r' mu (i + (k + 1)) (i + (k + 1)) ∧ Chg (FBoth nw hd r nw' hd' r') W z1) := ⟨HXZ.out.1.quiet hz1, HXZ.out.2.trans (hz1.mono (fun _ _ x => x.elim)) (fun _ _ x => x) (fun _ _ x => x)⟩
         clear hS HS2 HS3 C0 Cd
         go_wp2_with fail
         go_roundw
         case rel => exact ⟨k + 1, by omega, by first | rfl | go_num, HX9⟩
         case measure => simp [intOf]; omega
       ·obtain rfl : k = nx := by omega
        have q1 : ¬ (k : Int) < (k : Int) := by omega
        clear hlt
        go_upto_region 27 with fail
        have hb : i + k ≤ 60000 := by have := HNX.out; omega
        have HA1 := keepH (two_alike HX.out.1.a.at_ hb)
        have HA2 : ∀ w, Chg (fun _ => False) wr w → Hid (Calls Tryz.prog 11 #[.pointer (some ⟨b', 0, none⟩)] w fun e w' => e = .returned (.bool true) ∧ Chg (fun _ => False) w w') := fun w cw => two_alike (HX.out.1.b.quiet cw).at_ hb
        go_wp2_with fail
        refine HA1.out.mono ?_
        rintro e w5 ⟨rfl, C5⟩
        go_wp2_with fail
        refine (HA2 _ C5).out.mono ?_
        rintro e w6 ⟨rfl, C6⟩
        have HX5 : Hid (Chg (fun k => W.heap.size ≤ k) W w6) := (HX.out.2.trans ((C5.trans C6 (fun _ _ x => x) (fun _ _ x => x)).mono (fun _ _ x => x.elim)) (fun _ _ x => x) (fun _ _ x => x)).mono (fun q _ x => FBoth.low HLB.out HLB2.out q x)
        clear C5 C6
        go_wp2_with fail
        go_ret
        exact ⟨by simp, HX5.out⟩
end Go.Proofs.YtahgaghokpicgaaGreat
