/- A book that takes lists of bytes, of any lengths; all its looks. -/
import Derived.Laws.Tables
import Derived.Test.YtbmfjcdafjknaabBkIB
import Derived.Test.YtbmfjcdafjknaabNonesB
namespace Go.Proofs.Ytbmfjcdafjknaab
open Go.RowKit Go.Maps

def bookCells (sv : Value) : Array Value := #[sv, .slice none 0 0, .slice none 0 0, .slice none 0 0, .slice none 0 0, .slice none 0 0, .slice none 0 0, .slice none 0 0, .slice none 0 0, .slice none 0 0, .slice none 0 0, .slice none 0 0, .slice none 0 0, .slice none 0 0, .slice none 0 0, .slice none 0 0, .slice none 0 0, .slice none 0 0, .slice none 0 0, .slice none 0 0]
structure BKept (base : Nat) (W : World) (Bk n : Nat) (v : Nat → Value) (len : Nat → Nat) (sv : Value) : Prop where
  blk : W.heap[Bk]? = some (.cells (bookCells sv) 54 (0, 0))
  outer : W.ownsRow 0 23 1 sv n (LV v n)
  rows : ∀ j, j < n → ∃ xs, W.ownsRow 0 5 1 (v j) (len j) xs
  apart : Apart n v
  bn : base ≤ Bk
  rn : ∀ j b, j < n → (v j).ownBlock = some b → base ≤ b
  sn : ∀ b, sv.ownBlock = some b → base ≤ b
theorem BKept.chg {base : Nat} {W X : World} {Bk n : Nat} {v : Nat → Value} {len : Nat → Nat} {sv : Value} {F : Nat → Prop} (h : BKept base W Bk n v len sv) (hc : Chg F W X) (h1 : ¬ F Bk) (h2 : ∀ b, sv.ownBlock = some b → ¬ F b) (h3 : ∀ j b, j < n → (v j).ownBlock = some b → ¬ F b) : BKept base X Bk n v len sv :=
  ⟨(hc.block Bk (lt_of h.blk) h1).trans h.blk, row_kept h.outer fun b hb => hc.block b (row_lt h.outer b hb) (h2 b hb), fun j hj => by
    obtain ⟨xs, hx⟩ := h.rows j hj
    exact ⟨xs, row_kept hx fun b hb => hc.block b (row_lt hx b hb) (h3 j b hj hb)⟩, h.apart, h.bn, h.rn, h.sn⟩
theorem BKept.quiet {base : Nat} {W X : World} {Bk n : Nat} {v : Nat → Value} {len : Nat → Nat} {sv : Value} (h : BKept base W Bk n v len sv) (hc : Chg (fun _ => False) W X) : BKept base X Bk n v len sv := h.chg hc (fun x => x) (fun _ _ x => x) (fun _ _ _ _ x => x)
theorem BKept.bk {base : Nat} {W : World} {Bk n : Nat} {v : Nat → Value} {len : Nat → Nat} {sv : Value} (h : BKept base W Bk n v len sv) : BkB W Bk sv n v := ⟨⟨_, h.blk, rfl⟩, h.outer⟩
theorem BKept.lt {base : Nat} {W : World} {Bk n : Nat} {v : Nat → Value} {len : Nat → Nat} {sv : Value} (h : BKept base W Bk n v len sv) : Bk < W.heap.size := lt_of h.blk
theorem BKept.start (W : World) (base : Nat) (hb : base ≤ W.heap.size) : BKept base (W.alloc (.cells (bookCells (.slice none 0 0)) 54)) W.heap.size 0 (fun _ => .slice none 0 0) (fun _ => 0) (.slice none 0 0) :=
  ⟨heap_alloc_new _ _, World.ownsRow_nil _ _ _ _, fun j hj => by omega, fun i j b hi => by omega, hb, fun j b hj => by omega, fun b h => by simp [Value.ownBlock] at h⟩

set_option maxRecDepth 100000 in
set_option maxHeartbeats 4000000 in
theorem take_g (base Bk n k c : Nat) (p : Option Addr) (v : Nat → Value) (len : Nat → Nat) (sv : Value) (ys : List Value) (W : World) (hn : n ≤ 100) (hk : BKept base W Bk n v len sv) (hr : W.ownsRow 0 5 1 (.slice p k c) k ys) (hap : ∀ j b, j < n → (v j).ownBlock = some b → (Value.slice p k c).ownBlock ≠ some b) (hxn : ∀ b, (Value.slice p k c).ownBlock = some b → base ≤ b) :
    Calls Try.prog 10 #[.pointer (some ⟨Bk, 0, none⟩), .slice p k c] W fun e W' => e = .returned (.tuple #[]) ∧ (∃ sv', BKept base W' Bk (n + 1) (fun j => if j = n then .slice p k c else v j) (fun j => if j = n then k else len j) sv') ∧ Chg (fun b => b = Bk ∨ sv.ownBlock = some b) W W' := by
  obtain ⟨i1, hi1, hy0, hy1, hy2⟩ := info_parts infoLists
  have c2 : W.cell? ⟨Bk, 0, none⟩ = some sv := hk.bk.cell
  have HK := keepH hk
  have HR := keepH hr
  have HO := keepH hk.outer
  have HAP := keepH hap
  have HXN := keepH hxn
  have f2 : ∀ (u : World), u.heap[Bk]? = some (.cells (bookCells sv) 54 (0, 0)) → u.frozen? ⟨Bk, 0, none⟩ = false ∧ u.cell? ⟨Bk, 0, none⟩ = some sv := fun u hu => ⟨free_of hu 0, (cell_of hu 0).trans rfl⟩
  have HF2 := keepH f2
  clear hk hr hap hxn f2
  go_enter Try.func10, Try.ntmps10
  go_wp2_with (first | (at_builtin; refine wpList_append_own_at _ rfl (.tmp 8) (.tmp 10) 33 rfl 0 23 i1 (.slice none 0 0) 1 24 Try.underlying33 hi1 hy0 hy1 hy2 rfl (by decide) sv n (LV v n) rfl (HO.out.alloc _) ⟨W.heap.size, 0, none⟩ 1 1 [.slice p k c] rfl rfl (cells_new _ _ rfl _ _) (by intro u hu; simp at hu; subst hu; rfl) (by unfold maxLen; omega) (by omega) (Nat.zero_le _) ?_; intro v2 w1 r1 r2 r3 r4; obtain ⟨pv, cv, rfl⟩ := slice_of r1; have R1 := keepH r1; have R2 := keepH r2; have R4 := keepH r4; have CC : Hid (Chg (fun b => sv.ownBlock = some b) W w1) := ((Chg.refl (fun b => sv.ownBlock = some b) W).alloc _).grown r2 (fun k e _ => e); have HBL : Hid (w1.heap[Bk]? = some (.cells (bookCells sv) 54 (0, 0))) := (CC.out.block Bk HK.out.lt (fun e => block_apart HK.out.outer HK.out.blk (by decide) e)).trans HK.out.blk; obtain ⟨fz, cz⟩ := HF2.out w1 HBL.out; clear r1 r2 r3 r4) | go_in)
  go_end0
  have hne : (Value.slice pv (n + 1) cv).ownBlock ≠ some Bk := block_apart R1.out HBL.out (by decide)
  have cs : Chg (fun b => b = Bk) w1 (w1.setCell ⟨Bk, 0, none⟩ (.slice pv (n + 1) cv)) := (Chg.refl (fun b => b = Bk) w1).setCell (fun _ => rfl) _
  have ct : Chg (fun b => b = Bk ∨ sv.ownBlock = some b) W (w1.setCell ⟨Bk, 0, none⟩ (.slice pv (n + 1) cv)) := CC.out.trans cs (fun _ _ x => .inr x) (fun _ _ x => .inl x)
  have rowk : ∀ (x : Value) (m : Nat) (xs : List Value), W.ownsRow 0 5 1 x m xs → (w1.setCell ⟨Bk, 0, none⟩ (.slice pv (n + 1) cv)).ownsRow 0 5 1 x m xs := fun x m xs hx => row_kept hx fun b hb => ct.block b (row_lt hx b hb) (fun e => by
    rcases e with e | e
    · rw [e] at hb; exact block_apart hx HK.out.blk (by decide) hb
    · exact rows_apart hx HK.out.outer (by decide) b hb e)
  refine ⟨rfl, ⟨.slice pv (n + 1) cv, ⟨?_, ?_, fun j hj => ?_, fun i j b hi hj hij h1 => ?_, HK.out.bn, fun j b hj h1 => ?_, fun b h1 => ?_⟩⟩, ct⟩
  · exact set_of HBL.out 0 _
  · rw [LV_snoc]
    exact row_kept R1.out fun b hb => cs.block b (row_lt R1.out b hb) (fun e => by rw [e] at hb; exact hne hb)
  · by_cases e : j = n
    · simp only [if_pos e]
      exact ⟨_, rowk _ _ _ HR.out⟩
    · simp only [if_neg e]
      obtain ⟨xs, hx⟩ := HK.out.rows j (by omega)
      exact ⟨xs, rowk _ _ _ hx⟩
  · by_cases e1 : i = n
    · by_cases e2 : j = n
      · omega
      · simp only [if_pos e1] at h1
        simp only [if_neg e2]
        exact fun h2 => HAP.out j b (by omega) h2 h1
    · simp only [if_neg e1] at h1
      by_cases e2 : j = n
      · simp only [if_pos e2]
        exact HAP.out i b (by omega) h1
      · simp only [if_neg e2]
        exact HK.out.apart i j b (by omega) (by omega) hij h1
  · by_cases e1 : j = n
    · simp only [if_pos e1] at h1
      exact HXN.out b h1
    · simp only [if_neg e1] at h1
      exact HK.out.rn j b (by omega) h1
  · rcases R4.out with e | e
    · rw [e] at h1
      exact HK.out.sn b h1
    · rw [e] at h1
      simp at h1
      have := HK.out.lt
      have := HK.out.bn
      omega
theorem nil_one : (bookCells (.slice none 0 0)).all (·.oneCell') = true := by simp [bookCells, Value.oneCell']
theorem chg_setRow (W : World) (g : Nat) (cs : Array Value) : Chg (fun b => b = g) W (W.setRow g cs) :=
  ⟨rfl, rfl, rfl, by simp [World.setRow], fun k hk hn => by simp [World.setRow, Array.getElem?_modify]; omega⟩

set_option maxRecDepth 100000 in
set_option maxHeartbeats 8000000 in
theorem aloneAll_g (base Bk n : Nat) (v : Nat → Value) (len : Nat → Nat) (sv : Value) (W : World) (hn : n ≤ 100) (hn0 : 0 < n) (hk : BKept base W Bk n v len sv) (hlen : ∀ j, j < n → len j ≤ 17592186043904) :
    Calls Try.prog 12 #[.pointer (some ⟨Bk, 0, none⟩)] W fun e W' => e = .returned (.bool true) ∧ Chg (fun b => b = Bk ∨ Fv n v b) W W' := by
  have HB := keepH hk.blk
  have HK := keepH hk
  have HLEN := keepH hlen
  clear hk hlen
  have bc : ∀ (u : World) (i : Nat), u.heap[Bk]? = some (.cells (bookCells sv) 54 (0, 0)) → u.cell? ⟨Bk, i, none⟩ = (bookCells sv)[i]? := fun u i hu => cell_of hu i
  have HBC := keepH bc
  clear bc
  go_enter Try.func12, Try.ntmps12
  go_wp2_with fail
  refine (alone_g Bk n sv v len _ hn hn0 HK.out.bk (fun j hj => by obtain ⟨xs, hx⟩ := HK.out.rows j hj; exact ⟨xs, hx, fun q hq => absurd hq (Nat.not_lt_zero q)⟩) HK.out.apart HLEN.out).mono ?_
  rintro e w1 ⟨rfl, l1⟩
  have HB1 : Hid (w1.heap[Bk]? = some (.cells (bookCells sv) 54 (0, 0))) := (l1.block Bk HK.out.lt (fun ⟨j, hj, e⟩ => by obtain ⟨xs, hx⟩ := HK.out.rows j hj; exact block_apart hx HB.out (by decide) e)).trans HB.out
  have HC1 : Hid (Chg (fun b => b = Bk ∨ Fv n v b) _ w1) := l1.mono (fun b _ x => .inr x)
  clear l1
  go_wp2_with fail
  refine (none_1 Bk _ ((HBC.out _ 1 HB1.out).trans rfl)).mono ?_
  rintro e w' ⟨rfl, rfl⟩
  go_wp2_with fail
  refine (none_2 Bk _ ((HBC.out _ 2 HB1.out).trans rfl)).mono ?_
  rintro e w' ⟨rfl, rfl⟩
  go_wp2_with fail
  refine (none_3 Bk _ ((HBC.out _ 3 HB1.out).trans rfl)).mono ?_
  rintro e w' ⟨rfl, rfl⟩
  go_wp2_with fail
  refine (none_4 Bk _ ((HBC.out _ 4 HB1.out).trans rfl)).mono ?_
  rintro e w' ⟨rfl, rfl⟩
  go_wp2_with fail
  refine (none_5 Bk _ ((HBC.out _ 5 HB1.out).trans rfl)).mono ?_
  rintro e w' ⟨rfl, rfl⟩
  go_wp2_with fail
  refine (none_6 Bk _ ((HBC.out _ 6 HB1.out).trans rfl)).mono ?_
  rintro e w' ⟨rfl, rfl⟩
  go_wp2_with fail
  refine (none_7 Bk _ ((HBC.out _ 7 HB1.out).trans rfl)).mono ?_
  rintro e w' ⟨rfl, rfl⟩
  go_wp2_with fail
  refine (none_8 Bk _ ((HBC.out _ 8 HB1.out).trans rfl)).mono ?_
  rintro e w' ⟨rfl, rfl⟩
  go_wp2_with fail
  refine (none_9 Bk _ ((HBC.out _ 9 HB1.out).trans rfl)).mono ?_
  rintro e w' ⟨rfl, rfl⟩
  go_wp2_with fail
  refine (none_10 Bk _ ((HBC.out _ 10 HB1.out).trans rfl)).mono ?_
  rintro e w' ⟨rfl, rfl⟩
  go_wp2_with fail
  refine (none_11 Bk _ ((HBC.out _ 11 HB1.out).trans rfl)).mono ?_
  rintro e w' ⟨rfl, rfl⟩
  go_wp2_with fail
  refine (none_12 Bk _ ((HBC.out _ 12 HB1.out).trans rfl)).mono ?_
  rintro e w' ⟨rfl, rfl⟩
  go_wp2_with fail
  refine (none_13 Bk _ ((HBC.out _ 13 HB1.out).trans rfl)).mono ?_
  rintro e w' ⟨rfl, rfl⟩
  go_wp2_with fail
  refine (none_14 Bk _ ((HBC.out _ 14 HB1.out).trans rfl)).mono ?_
  rintro e w' ⟨rfl, rfl⟩
  go_wp2_with fail
  refine (none_15 Bk _ ((HBC.out _ 15 HB1.out).trans rfl)).mono ?_
  rintro e w' ⟨rfl, rfl⟩
  go_wp2_with fail
  refine (none_16 Bk _ ((HBC.out _ 16 HB1.out).trans rfl)).mono ?_
  rintro e w' ⟨rfl, rfl⟩
  go_wp2_with fail
  refine (none_17 Bk _ ((HBC.out _ 17 HB1.out).trans rfl)).mono ?_
  rintro e w' ⟨rfl, rfl⟩
  go_wp2_with fail
  refine (none_18 Bk _ ((HBC.out _ 18 HB1.out).trans rfl)).mono ?_
  rintro e w' ⟨rfl, rfl⟩
  go_wp2_with fail
  refine (none_19 Bk _ ((HBC.out _ 19 HB1.out).trans rfl)).mono ?_
  rintro e w' ⟨rfl, rfl⟩
  have hb1 := HB1.out
  go_wp2_with (refine wpList_store_row rfl 54 _ _ rfl Bk (bookCells (.slice none 0 0)) rfl rfl 54 (bookCells sv) hb1 (by kernel_rfl) rfl nil_one ?_)
  go_ret
  exact ⟨by simp, HC1.out.trans (chg_setRow _ _ _) (fun _ _ x => x) (fun b _ e => .inl e)⟩
end Go.Proofs.Ytbmfjcdafjknaab
