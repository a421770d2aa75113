/- Encode. -/
import Derived.Test.YtbmfjcdafjknaabEc
import Derived.Lib.SlBytesConst
namespace Go.Proofs.Ytbmfjcdafjknaab
open Go.RowKit
set_option linter.unusedVariables false

def aheadAt (l : List (Nat × Nat)) : Nat → Nat
  | 0 => 0
  | j + 1 => (l[j]?.getD (0, 0)).1
def encI (l : List (Nat × Nat)) : Nat → List Nat
  | 0 => []
  | i + 1 => encI l i ++ (numB ((l[i]?.getD (0, 0)).1 - aheadAt l i) ++ numB (l[i]?.getD (0, 0)).2)
def markB : List Nat := [83, 72, 85, 49]
def encH (l : List (Nat × Nat)) (i : Nat) : List Nat := markB ++ numB l.length ++ encI l i
def encL (l : List (Nat × Nat)) : List Nat := encH l l.length ++ sum4 (sumF (encH l l.length))
theorem encI_add (l : List (Nat × Nat)) (i k v : Nat) (h : l[i]? = some (k, v)) : encI l (i + 1) = encI l i ++ numB (k - aheadAt l i) ++ numB v := by
  simp [encI, h]
theorem encH_add (l : List (Nat × Nat)) (i k v : Nat) (h : l[i]? = some (k, v)) : encH l (i + 1) = encH l i ++ numB (k - aheadAt l i) ++ numB v := by
  unfold encH
  rw [encI_add l i k v h]
  simp
theorem small_get {l : List (Nat × Nat)} (hs : small64 l) (i : Nat) : (l[i]?.getD (0, 0)).1 < 18446744073709551616 ∧ (l[i]?.getD (0, 0)).2 < 18446744073709551616 := by
  cases h : l[i]? with
  | none => simp
  | some x => exact hs x (List.mem_of_getElem? h)
theorem encI_len {l : List (Nat × Nat)} (hs : small64 l) (i : Nat) : (encI l i).length ≤ 20 * i := by
  induction i with
  | zero => simp [encI]
  | succ i ih =>
    obtain ⟨h1, h2⟩ := small_get hs i
    have q1 := numB_len10 (n := (l[i]?.getD (0, 0)).1 - aheadAt l i) (by omega)
    have q2 := numB_len10 h2
    simp only [encI, List.length_append]
    omega
theorem encH_len {l : List (Nat × Nat)} (hs : small64 l) (hl : l.length ≤ 10000000) (i : Nat) : (encH l i).length ≤ 14 + 20 * i := by
  have h1 := encI_len hs i
  have h2 := numB_len10 (n := l.length) (by omega)
  simp only [encH, List.length_append, markB, List.length_cons, List.length_nil]
  omega
theorem PairsAt.small {W : World} {p : Option Addr} {l : List (Nat × Nat)} (h : PairsAt W p l) : small64 l := by
  rcases h with rfl | ⟨bk, off, rfl, hb, h⟩
  · intro x hx; simp at hx
  · intro x hx
    obtain ⟨i, hi⟩ := List.mem_iff_getElem?.1 hx
    obtain ⟨k, v⟩ := x
    exact ⟨(h i k v hi).1, (h i k v hi).2.1⟩
theorem ahead_le {l : List (Nat × Nat)} (hr : riseB l = true) {i k v : Nat} (h : l[i]? = some (k, v)) : aheadAt l i ≤ k := by
  cases i with
  | zero => simp [aheadAt]
  | succ j =>
    have hlt := (List.getElem?_eq_some_iff.1 h).1
    obtain ⟨x, hx⟩ : ∃ x, l[j]? = some x := ⟨l[j]'(by omega), List.getElem?_eq_getElem _⟩
    have := (riseB_iff l).1 hr j x (k, v) hx h
    simp [aheadAt, hx]
    omega
theorem chg_belowE {W A : World} (h : Chg (fun k => W.heap.size ≤ k) W A) : Below W.heap.size W A := ⟨h.os, h.tape, h.output, h.size, fun k hk => h.block k hk (by omega)⟩
theorem below_chgE {W A : World} (h : Below W.heap.size W A) : Chg (fun _ => False) W A := ⟨h.os, h.tape, h.output, h.size, fun k hk _ => h.block k hk⟩
theorem row_kept' {W W' : World} {B : Nat} {e : TypeId} {s n : Nat} {v : Value} {xs : List Value} (h : W.ownsRow B e s v n xs) (hb : ∀ k, v.ownBlock = some k → W'.heap[k]? = W.heap[k]?) : W'.ownsRow B e s v n xs := by
  refine ⟨h.1, ?_⟩
  rcases h.2 with h2 | ⟨g, cap, cur, hv, hg, hh, r⟩
  · exact .inl h2
  · exact .inr ⟨g, cap, cur, hv, hg, (hb g (by subst hv; rfl)).trans hh, r⟩
theorem BRow.chg {F : Nat → Prop} {W W' : World} {B : Nat} {v : Value} {l : List Nat} (h : BRow W B v l) (c : Chg F W W') (hn : ∀ k, v.ownBlock = some k → ¬ F k) : BRow W' B v l :=
  ⟨row_kept' h.1 (fun k e => c.block k (h.lt k e).2 (hn k e)), h.2⟩
theorem row_base {W : World} {B C : Nat} {e : TypeId} {s n : Nat} {v : Value} {xs : List Value} (h : W.ownsRow B e s v n xs) (hBC : C ≤ B) : W.ownsRow C e s v n xs := by
  refine ⟨h.1, ?_⟩
  rcases h.2 with h2 | ⟨g, cap, cur, hv, hg, r⟩
  · exact .inl h2
  · exact .inr ⟨g, cap, cur, hv, Nat.le_trans hBC hg, r⟩
set_option maxRecDepth 100000 in
set_option maxHeartbeats 4000000 in
theorem app_num_full {W : World} {ad : Addr} {l : List Nat} (H : ∀ j u, (bRow l)[j]? = some u → W.cell? (ad.add j) = some u) (hs : small8 l) (n : Nat) (hn : n < 18446744073709551616) (hl : l.length ≤ 1000000000) :
    Calls Try.prog 15 #[.slice (some ad) l.length l.length, .int .u64 (n : Int)] W fun e W' => (∃ v', e = .returned v' ∧ BRow W' W.heap.size v' (l ++ numB n)) ∧ Chg (fun k => W.heap.size ≤ k) W W' := by
  obtain ⟨i0, hi, hz0, hz1, hz2⟩ := info_parts infoU8
  have HN : Hid ((numB n).length ≤ 10) := numB_len10 hn
  have HH := keepH H
  clear H
  go_enter Try.func15, Try.ntmps15
  go_wp2_with fail
  go_loopw [0, 1] (fun s q wr => ∃ (m : Nat), m < 18446744073709551616 ∧ q = .int .u64 (m : Int) ∧ ((s = .slice (some ad) l.length l.length ∧ m = n ∧ wr = W) ∨ ∃ l' : List Nat, Hid (l' ++ numB m = l ++ numB n ∧ BRow wr W.heap.size s l' ∧ Chg (fun k => W.heap.size ≤ k) W wr))) (fun _ q _ => (intOf q).toNat)
  case atStart => exact ⟨n, hn, rfl, .inl ⟨rfl, rfl, rfl⟩⟩
  case round =>
    obtain ⟨m, hm, rfl, ⟨rfl, rfl, rfl⟩ | ⟨l', HX⟩⟩ := hrel
    · by_cases c : m < 128
      · have t1 : ¬ (128 : Int) ≤ (m : Int) := by omega
        go_wp2_with (first | (at_builtin; go_loud (refine wpList_append_grows _ rfl _ _ 23 rfl 5 i0 (.int .u8 0) 1 1 Try.underlying23 hi hz0 hz1 hz2 rfl (by decide) (some ad) l.length l.length (bRow l) rfl (fun e => by cases e) (by simp [bRow]) (fun b e j u h => by cases e; exact cell_chg ((Chg.refl (fun _ => False) _).alloc _) (HH.out j u h) (fun x => x)) ⟨_, 0, none⟩ 1 1 [.int .u8 (m : Int)] rfl rfl (cells_newE _ _ rfl _ _) (by intro u hu; simp at hu; subst hu; rfl) (by omega) (by unfold maxLen; omega) (by omega) ?_); intro v' w3 r1 r2; have R1 := keepH r1; have R2 := keepH r2; clear r1 r2))
        go_ret
        refine ⟨⟨_, rfl, ?_⟩, ?_⟩
        · rw [numB_small c]
          exact BRow.add hs (by omega) (row_base R1.out (by simp))
        · exact ((Chg.refl _ _).alloc _).trans (grown_chgE (F := fun k => False) R2.out (fun k e => by cases e)) (fun _ _ x => x) (fun _ _ x => x.elim)
      · have t1 : (128 : Int) ≤ (m : Int) := by omega
        have HO := keepH (or_128 m)
        go_wp2_with (first | (at_builtin; go_loud (refine wpList_append_grows _ rfl _ _ 23 rfl 5 i0 (.int .u8 0) 1 1 Try.underlying23 hi hz0 hz1 hz2 rfl (by decide) (some ad) l.length l.length (bRow l) rfl (fun e => by cases e) (by simp [bRow]) (fun b e j u h => by cases e; exact cell_chg ((Chg.refl (fun _ => False) _).alloc _) (HH.out j u h) (fun x => x)) ⟨_, 0, none⟩ 1 1 [.int .u8 (bits BinOp.or IntKind.u8 ((m : Int) % 128) 128)] rfl rfl (cells_newE _ _ rfl _ _) (by intro u hu; simp at hu; subst hu; rfl) (by omega) (by unfold maxLen; omega) (by omega) ?_); intro v' w3 r1 r2; rw [HO.out] at r1; have R1 := keepH r1; have R2 := keepH r2; clear r1 r2))
        go_roundw
        case rel =>
          refine ⟨m / 128, by omega, by first | rfl | go_num, .inr ⟨l ++ [m % 128 + 128], keepH ⟨?_, ?_, ?_⟩⟩⟩
          · rw [numB_great c]; simp
          · exact BRow.add hs (by omega) (row_base R1.out (by simp))
          · exact ((Chg.refl _ _).alloc _).trans (grown_chgE (F := fun k => False) R2.out (fun k e => by cases e)) (fun _ _ x => x) (fun _ _ x => x.elim)
        case measure => simp [intOf]; omega
    · have HB : Hid (l'.length ≤ 1000000010) := by
        have q := congrArg List.length HX.out.1
        have := HN.out
        simp at q
        exact (by omega : l'.length ≤ 1000000010)
      by_cases c : m < 128
      · have t1 : ¬ (128 : Int) ≤ (m : Int) := by omega
        go_wp2_with (first | (at_builtin; go_loud (refine wpList_append_own_at _ rfl _ _ 23 rfl W.heap.size 5 i0 (.int .u8 0) 1 1 Try.underlying23 hi hz0 hz1 hz2 rfl (by decide) _ _ _ rfl (HX.out.2.1.1.kept (World.grownBy_alloc _ _ none) (by cases Value.ownBlock _ <;> simp)) ⟨_, 0, none⟩ 1 1 [.int .u8 (m : Int)] rfl rfl (cells_newE _ _ rfl _ _) (by intro u hu; simp at hu; subst hu; rfl) (by unfold maxLen; have := HB.out; omega) (by have := HB.out; omega) (Nat.le_trans HX.out.2.2.size (by simp)) ?_); intro v' w3 r1 r2 r3 r4; have R1 := keepH r1; have R2 := keepH r2; clear r1 r2 r3 r4))
        go_ret
        refine ⟨⟨_, rfl, ?_⟩, ?_⟩
        · rw [← HX.out.1, numB_small c]
          exact BRow.add HX.out.2.1.2 (by omega) R1.out
        · exact (HX.out.2.2.alloc _).trans (grown_chgE (F := fun k => W.heap.size ≤ k) R2.out (fun k e => (HX.out.2.1.lt k e).1)) (fun _ _ x => x) (fun _ _ x => x)
      · have t1 : (128 : Int) ≤ (m : Int) := by omega
        have HO := keepH (or_128 m)
        go_wp2_with (first | (at_builtin; go_loud (refine wpList_append_own_at _ rfl _ _ 23 rfl W.heap.size 5 i0 (.int .u8 0) 1 1 Try.underlying23 hi hz0 hz1 hz2 rfl (by decide) _ _ _ rfl (HX.out.2.1.1.kept (World.grownBy_alloc _ _ none) (by cases Value.ownBlock _ <;> simp)) ⟨_, 0, none⟩ 1 1 [.int .u8 (bits BinOp.or IntKind.u8 ((m : Int) % 128) 128)] rfl rfl (cells_newE _ _ rfl _ _) (by intro u hu; simp at hu; subst hu; rfl) (by unfold maxLen; have := HB.out; omega) (by have := HB.out; omega) (Nat.le_trans HX.out.2.2.size (by simp)) ?_); intro v' w3 r1 r2 r3 r4; rw [HO.out] at r1; have R1 := keepH r1; have R2 := keepH r2; clear r1 r2 r3 r4))
        go_roundw
        case rel =>
          refine ⟨m / 128, by omega, by first | rfl | go_num, .inr ⟨l' ++ [m % 128 + 128], keepH ⟨?_, ?_, ?_⟩⟩⟩
          · rw [← HX.out.1, numB_great c]; simp
          · exact BRow.add HX.out.2.1.2 (by omega) R1.out
          · exact (HX.out.2.2.alloc _).trans (grown_chgE (F := fun k => W.heap.size ≤ k) R2.out (fun k e => (HX.out.2.1.lt k e).1)) (fun _ _ x => x) (fun _ _ x => x)
        case measure => simp [intOf]; omega
set_option maxRecDepth 100000 in
set_option maxHeartbeats 4000000 in
theorem enc_no {W : World} {p : Option Addr} {l : List (Nat × Nat)} (H : PairsAt W p l) (c : Nat) (hl : l.length ≤ 10000000) (hr : riseB l = false) :
    Calls Try.prog 5 #[.slice p l.length c] W fun e W' => e = .returned (.tuple #[.slice none 0 0, .int .i64 52]) ∧ Below W.heap.size W W' := by
  have HC := right_any H c (by omega)
  rw [hr] at HC
  replace HC := keepH HC
  clear H hr
  go_enter Try.func5, Try.ntmps5
  go_wp2_with (first | (go_at_call 14; refine HC.out.mono ?_; rintro e W1 ⟨rfl, hB⟩; have HB := keepH hB; clear hB))
  go_ret2
  exact ⟨rfl, HB.out⟩
theorem mark_small : small8 markB := by intro x hx; simp [markB] at hx; omega
theorem cells_mark (W : World) : ∀ j u, (bRow markB)[j]? = some u → (W.alloc (.cells #[.int .u8 83, .int .u8 72, .int .u8 85, .int .u8 49] 5 (4, 5))).cell? ((⟨W.heap.size, 0, none⟩ : Addr).add j) = some u := by
  intro j u h
  have e : (⟨W.heap.size, 0, none⟩ : Addr).add j = ⟨W.heap.size, j, none⟩ := by unfold Addr.add; split <;> simp_all
  rw [e]
  have hh : (W.alloc (.cells #[.int .u8 83, .int .u8 72, .int .u8 85, .int .u8 49] 5 (4, 5))).heap[W.heap.size]? = some (.cells #[.int .u8 83, .int .u8 72, .int .u8 85, .int .u8 49] 5 (4, 5)) := heap_alloc_new _ _
  rw [cell_of hh j]
  simpa [bRow, markB] using h
theorem pair_new {wr W3 : World} {k x : Nat} {u : Value} {B : Nat} {l : List Nat} (c : Chg (fun j => u.ownBlock = some j) (wr.alloc (.cells #[.int .u64 (k : Int), .int .u64 (x : Int)] 59)) W3) (h : BRow wr B u l) :
    W3.cell? ⟨wr.heap.size, 0, none⟩ = some (.int .u64 (k : Int)) ∧ W3.cell? ⟨wr.heap.size, 1, none⟩ = some (.int .u64 (x : Int)) := by
  have hh : (wr.alloc (.cells #[.int .u64 (k : Int), .int .u64 (x : Int)] 59)).heap[wr.heap.size]? = some (.cells #[.int .u64 (k : Int), .int .u64 (x : Int)] 59 (0, 0)) := heap_alloc_new _ _
  have hne : ¬ u.ownBlock = some wr.heap.size := fun e => by have := (h.lt _ e).2; omega
  exact ⟨cell_chg c (by rw [cell_of hh]; rfl) hne, cell_chg c (by rw [cell_of hh]; rfl) hne⟩
theorem enc_step {W wr W3 : World} {o : Obj} {u : Value} {l : List Nat} (c : Chg (fun k => W.heap.size ≤ k) W wr) (h : BRow wr W.heap.size u l) (r : Chg (fun j => u.ownBlock = some j) (wr.alloc o) W3) : Chg (fun k => W.heap.size ≤ k) W W3 :=
  (c.alloc o).trans r (fun _ _ x => x) (fun k _ e => (h.lt k e).1)
theorem own_ne {wr : World} {o : Obj} {u v : Value} {B : Nat} {l : List Nat} (h : BRow wr B u l) (r : ∀ k, v.ownBlock = some k → u.ownBlock = some k ∨ (wr.alloc o).heap.size ≤ k) : v.ownBlock ≠ some wr.heap.size := fun e => by
  rcases r _ e with z | z
  · have := (h.lt _ z).2; omega
  · simp at z; omega
set_option maxRecDepth 100000 in
set_option maxHeartbeats 4000000 in
theorem enc_yes {W : World} {p : Option Addr} {l : List (Nat × Nat)} (H : PairsAt W p l) (c : Nat) (hl : l.length ≤ 10000000) (hr : riseB l = true) :
    Calls Try.prog 5 #[.slice p l.length c] W fun e W' => (∃ v, e = .returned (.tuple #[v, .int .i64 0]) ∧ BRow W' W.heap.size v (encL l)) ∧ Below W.heap.size W W' := by
  have HC := right_any H c (by omega)
  rw [hr] at HC
  replace HC := keepH HC
  have HH := keepH H
  have HR : Hid (riseB l = true ∧ small64 l) := keepH ⟨hr, H.small⟩
  clear H hr
  have lu : ((l.length : Nat) : Int) < 18446744073709551616 := by omega
  have kc := fun (w : World) (C : Array Value) (n c : Nat) => Lib.run_convert_bytes_const (P := Try.prog) w 23 5 C n c Try.underlying23 Try.underlying5
  go_enter Try.func5, Try.ntmps5
  go_wp2_with (first | (go_at_call 14; refine HC.out.mono ?_; rintro e W1 ⟨rfl, hB⟩; have HB := keepH hB; clear hB) | (go_at_call 15; refine (app_num_full (l := markB) (cells_mark W1) mark_small l.length (by omega) (by decide)).mono ?_; rintro e W2 ⟨⟨v, rfl, r1⟩, r2⟩; have R1 := keepH r1; have R2 := keepH r2; clear r1 r2))
  have HZ : Hid (Chg (fun k => W.heap.size ≤ k) W W2) := keepH (((below_chgE HB.out).alloc _).trans R2.out (fun _ _ x => x.elim) (fun j hj e => by have := HB.out.size; simp at e; omega))
  have HS : Hid (BRow W2 W.heap.size v (encH l 0)) := keepH (by
    have q := R1.out
    refine ⟨row_base (by simpa [encH, encI] using q.1) (by have := HB.out.size; simp; omega), by simpa [encH, encI] using q.2⟩)
  clear R1 R2
  go_loopw [4, 5, 19] (fun s a q wr => ∃ i : Nat, i ≤ l.length ∧ q = .int .i64 (i : Int) ∧ (∃ b : Nat, a = .int .u64 (b : Int) ∧ Hid (b = aheadAt l i)) ∧ Hid (BRow wr W.heap.size s (encH l i) ∧ Chg (fun k => W.heap.size ≤ k) W wr)) (fun _ _ q _ => l.length - (intOf q).toNat)
  case atStart => exact ⟨0, Nat.zero_le _, rfl, ⟨0, rfl, rfl⟩, keepH ⟨HS.out, HZ.out⟩⟩
  case round =>
    obtain ⟨i, hil, rfl, ⟨b, rfl, HA⟩, HX⟩ := hrel
    have HLn : Hid ((encH l i).length ≤ 1000000000 - 40) := by
      have := encH_len HR.out.2 hl i
      exact keepH (by omega)
    by_cases hlt : i < l.length
    · have q1 : (i : Int) < (l.length : Int) := by omega
      obtain ⟨⟨k, x⟩, hk⟩ : ∃ y, l[i]? = some y := ⟨l[i], List.getElem?_eq_getElem hlt⟩
      obtain ⟨bk, off, rfl, hbk, hcs⟩ := HH.out.resolve_left (by intro e; subst e; simp at hk)
      obtain ⟨k64, x64, h0, h1⟩ := hcs i k x hk
      have c0 := cell_chg HX.out.2 h0 (fun z => by simp at z; omega)
      have c1 := cell_chg HX.out.2 h1 (fun z => by simp at z; omega)
      have hbk2 : bk < wr.heap.size := Nat.lt_of_lt_of_le hbk HX.out.2.size
      have hle : b ≤ k := by rw [HA.out]; exact ahead_le HR.out.1 hk
      have hsub : ((k : Int) - (b : Int)) % 18446744073709551616 = ((k - b : Nat) : Int) := by omega
      have hsub0 : (k : Int) - (b : Int) = ((k - b : Nat) : Int) := by omega
      obtain ⟨d, hd⟩ : ∃ d, d = k - b := ⟨_, rfl⟩
      rw [← hd] at hsub hsub0
      have d64 : d < 18446744073709551616 := by omega
      have HE : Hid (encH l (i + 1) = encH l i ++ numB d ++ numB x) := keepH (by rw [encH_add l i k x hk, hd, HA.out])
      have HK : Hid (k = aheadAt l (i + 1)) := keepH (by simp [aheadAt, hk])
      have HD : Hid (d < 18446744073709551616 ∧ x < 18446744073709551616) := ⟨d64, x64⟩
      clear h0 h1 hcs hk hd hle
      go_wp2_with (first | (go_at_call 15; refine (app_num (HX.out.1.chg ((Chg.refl (fun _ => False) wr).alloc _) (fun _ _ x => x)) d HD.out.1 (by have := HLn.out; omega) (Nat.le_trans HX.out.2.size (by simp))).mono ?_; rintro e W3 ⟨⟨v3, rfl, r1, r2⟩, r3⟩; (have d0 := pair_new r3 HX.out.1); obtain ⟨d0, d1⟩ := d0; have HP : Hid (BRow W3 W.heap.size v3 (encH l i ++ numB d) ∧ Chg (fun k => W.heap.size ≤ k) W W3 ∧ v3.ownBlock ≠ some wr.heap.size) := keepH ⟨r1, enc_step HX.out.2 HX.out.1 r3, own_ne HX.out.1 r2⟩; clear r1 r2 r3 HX) | (go_at_call 15; refine (app_num HP.out.1 x HD.out.2 (by have := HLn.out; rw [List.length_append]; have := numB_len10 HD.out.1; omega) HP.out.2.1.size).mono ?_; rintro e W4 ⟨⟨v4, rfl, r1, r2⟩, r3⟩; (have f0 := cell_chg r3 d0 HP.out.2.2); have HQ : Hid (BRow W4 W.heap.size v4 (encH l (i + 1)) ∧ Chg (fun k => W.heap.size ≤ k) W W4) := keepH ⟨by rw [HE.out]; exact r1, HP.out.2.1.trans r3 (fun _ _ x => x) (fun k _ e => (HP.out.1.lt k e).1)⟩; clear r1 r2 r3 HP))
      go_roundw
      case rel => exact ⟨i + 1, by omega, by first | rfl | go_num, ⟨k, rfl, HK.out⟩, HQ.out⟩
      case measure => simp [intOf]; omega
    · have q1 : ¬ (i : Int) < (l.length : Int) := by omega
      obtain rfl : i = l.length := by omega
      obtain ⟨q, cq, rfl, hat, hge⟩ := HX.out.1.slice
      have HSum := keepH (sum_of hat cq (by have := HLn.out; omega))
      have HApp := keepH (app_sum HX.out.1 (sumF (encH l l.length)) (sumF_lt _) (by have := HLn.out; omega) HX.out.2.size)
      clear hat hge
      go_wp2_with (first | (go_at_call 17; refine HSum.out.mono ?_; rintro e W5 ⟨rfl, rfl⟩) | (go_at_call 16; refine HApp.out.mono ?_; rintro e W6 ⟨⟨v6, rfl, r1⟩, r2⟩; have R1 := keepH r1; have R2 := keepH r2; clear r1 r2))
      go_ret2
      exact ⟨⟨_, rfl, R1.out⟩, chg_belowE (HX.out.2.trans R2.out (fun _ _ x => x) (fun _ _ x => x))⟩
end Go.Proofs.Ytbmfjcdafjknaab
