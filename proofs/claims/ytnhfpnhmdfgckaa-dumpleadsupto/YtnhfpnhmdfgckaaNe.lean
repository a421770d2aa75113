/- Pairs sorted by their keys; a content between two keys. -/
import Derived.Test.YtnhfpnhmdfgckaaNd0
import Derived.Test.YtnhfpnhmdfgckaaShelfG
namespace Go.Proofs.Ytnhfpnhmdfgckaa
open Go.RowKit Go.Maps Go.Shelf Go.Sort
set_option linter.unusedVariables false

def encP (x : Nat × Nat) : List Value := [.int .u64 (x.1 : Int), .int .u64 (x.2 : Int)]
def cmpP (x y : Nat × Nat) : Int := if x.1 < y.1 then -1 else if y.1 < x.1 then 1 else 0
theorem ltP (x y : Nat × Nat) : ltOf cmpP x y = decide (x.1 < y.1) := by
  unfold ltOf cmpP
  by_cases h1 : x.1 < y.1
  · simp [h1]
  · by_cases h2 : y.1 < x.1 <;> simp [h1, h2]
theorem swoP : SWO (ltOf cmpP) := {
  irrefl := fun x => by rw [ltP]; simp
  trans := fun x y z h1 h2 => by rw [ltP] at *; simp at *; omega
  ntrans := fun x y z h1 h2 => by rw [ltP] at *; simp at *; omega }
set_option maxRecDepth 100000 in
theorem isNaN_u (x : Int) (W : World) : Calls Try.prog 93 #[.int .u64 x] W fun e W' => e = .returned (.bool false) ∧ W' = W := by
  go_enter Try.func93, Try.ntmps93
  go_wp2_with fail
  go_ret
  exact ⟨by simp, rfl⟩
set_option maxRecDepth 100000 in
theorem cmp_u (x y : Nat × Nat) (W : World) : Calls Try.prog 82 #[.int .u64 (x.1 : Int), .int .u64 (y.1 : Int)] W fun e W' => e = .returned (.int .i64 (cmpP x y)) ∧ W' = W := by
  have hN := fun z W => keepH (isNaN_u z W)
  unfold cmpP
  by_cases h1 : x.1 < y.1
  · have q : (x.1 : Int) < (y.1 : Int) := by omega
    rw [if_pos h1]
    clear h1
    go_enter Try.func82, Try.ntmps82
    go_wp2_with (go_at_call 93; refine (hN _ _).out.mono ?_; rintro e w' ⟨rfl, rfl⟩)
    go_ret
    exact ⟨by simp, rfl⟩
  · have q : ¬ (x.1 : Int) < (y.1 : Int) := by omega
    rw [if_neg h1]
    by_cases h2 : y.1 < x.1
    · have q2 : (y.1 : Int) < (x.1 : Int) := by omega
      rw [if_pos h2]
      clear h1 h2
      go_enter Try.func82, Try.ntmps82
      go_wp2_with (go_at_call 93; refine (hN _ _).out.mono ?_; rintro e w' ⟨rfl, rfl⟩)
      go_ret
      exact ⟨by simp, rfl⟩
    · have q2 : ¬ (y.1 : Int) < (x.1 : Int) := by omega
      rw [if_neg h2]
      clear h1 h2
      go_enter Try.func82, Try.ntmps82
      go_wp2_with (go_at_call 93; refine (hN _ _).out.mono ?_; rintro e w' ⟨rfl, rfl⟩)
      go_ret
      exact ⟨by simp, rfl⟩
set_option maxRecDepth 100000 in
theorem byKey_any (x y : Nat × Nat) (W : World) : Calls Try.prog 78 #[.agg #[.int .u64 (x.1 : Int), .int .u64 (x.2 : Int)], .agg #[.int .u64 (y.1 : Int), .int .u64 (y.2 : Int)]] W fun e w' => e = .returned (.int .i64 (cmpP x y)) ∧ ∃ q os', w' = grow (W.drewN q) os' := by
  have hC := fun W => keepH (cmp_u x y W)
  go_enter Try.func78, Try.ntmps78
  go_wp2_with (go_at_call 82; refine (hC _).out.mono ?_; rintro e w' ⟨rfl, rfl⟩)
  go_ret
  exact ⟨by simp, 0, _, by rw [alloc_eq_grow, alloc_eq_grow, grow_grow]; rfl⟩
theorem cmpLaysP (blk off size : Nat) (w : World) : CmpLays Try.prog 78 #[] encP 2 cmpP blk off size w := fun _ _ _ _ x y => byKey_any x y _
theorem flatP (l : List (Nat × Nat)) : (flatK encP 2 l.toArray).toList = prRow l := by
  apply List.ext_getElem?
  intro j
  by_cases hj : j < l.length * 2
  · have e1 : (flatK encP 2 l.toArray).toList[j]? = some ((encP l.toArray[j / 2]!)[j % 2]!) := by
      rw [Array.getElem?_toList, Array.getElem?_eq_getElem (by simpa using hj), ← getElem!_pos _ j (by simpa using hj), get_flatK _ _ _ _ (by simpa using hj)]
    rw [e1]
    obtain ⟨⟨k, x⟩, hk⟩ : ∃ y, l[j / 2]? = some y := ⟨l[j / 2]'(by omega), List.getElem?_eq_getElem _⟩
    have e2 : l.toArray[j / 2]! = (k, x) := by
      obtain ⟨h, e⟩ := List.getElem?_eq_some_iff.1 hk
      rw [getElem!_pos _ _ (by simpa using h)]
      simpa using e
    obtain ⟨q1, q2⟩ := prRow_get l (j / 2) k x hk
    rw [e2]
    rcases Nat.mod_two_eq_zero_or_one j with m | m
    · rw [m, show j = j / 2 * 2 by omega, q1]; simp [encP]
    · rw [m, show j = j / 2 * 2 + 1 by omega, q2]; simp [encP]
  · rw [List.getElem?_eq_none (by simp; omega), List.getElem?_eq_none (by rw [prRow_len]; omega)]
theorem flatP_get (l : List (Nat × Nat)) (j : Nat) (hj : j < l.length * 2) : (prRow l)[j]? = some ((flatK encP 2 l.toArray)[j]!) := by
  rw [← flatP, Array.getElem?_toList, Array.getElem?_eq_getElem (by simpa using hj), ← getElem!_pos _ j (by simpa using hj)]
theorem holdsP {W : World} {g : Nat} {cur : Array Value} {e : TypeId} {l : List (Nat × Nat)} (hb : W.heap[g]? = some (.cells cur e (0, 0))) (ht : cur.toList.take (l.length * 2) = prRow l) : HoldsK encP 2 W g 0 l.toArray := by
  intro j hj
  have hj' : j < l.length * 2 := by simpa using hj
  refine ⟨?_, by simp [World.frozen?, hb]⟩
  have h1 := flatP_get l j hj'
  rw [← ht, List.getElem?_take_of_lt hj'] at h1
  rw [Nat.zero_add, cell_of hb, ← Array.getElem?_toList, h1]
  rfl
theorem heap_sortedP {W : World} {g n : Nat} {os : Array Obj} {cur : Array Value} {e : TypeId} {fr : Nat × Nat} (d : Array (Nat × Nat)) (hb : W.heap[g]? = some (.cells cur e fr)) :
    (sortWorldK encP 2 W g 0 n d os).heap[g]? = some (.cells (putCells id 0 (flatK encP 2 d) cur) e fr) := by
  have hg : g < W.heap.size := (Array.getElem?_eq_some_iff.1 hb).1
  unfold sortWorldK putRowK
  rw [heap_grow_old _ _ (by simpa using hg)]
  simp [putRow, mapBlock, Sort.ahead, Array.getElem?_modify, hb, onCells]
theorem grownBy_sortedP {W : World} {g n : Nat} {os : Array Obj} (d : Array (Nat × Nat)) : W.grownBy (sortWorldK encP 2 W g 0 n d os) (some g) := by
  unfold sortWorldK putRowK
  refine ⟨rfl, rfl, rfl, by simp, fun k hk hne => ?_⟩
  rw [heap_grow_old _ _ (by simpa using hk)]
  have : g ≠ k := fun e => hne (by rw [e])
  simp [putRow, mapBlock, Sort.ahead, Array.getElem?_modify, this]
theorem take_putCellsP (cur : Array Value) (l : List (Nat × Nat)) (h : l.length * 2 ≤ cur.size) : (putCells id 0 (flatK encP 2 l.toArray) cur).toList.take (l.length * 2) = prRow l := by
  apply List.ext_getElem?
  intro j
  by_cases hj : j < l.length * 2
  · rw [List.getElem?_take_of_lt hj, flatP_get l j hj, Array.getElem?_toList]
    simp [putCells, hj, show j < cur.size by omega]
  · rw [List.getElem?_take_eq_none (by omega), List.getElem?_eq_none (by rw [prRow_len]; omega)]
theorem isAggP (w : World) : (isAgg 71).run Try.prog w = .ok true w := by kernel_rfl
theorem sizeOfP (w : World) : (Go.sizeOf 71).run Try.prog w = .ok 2 w := by kernel_rfl
set_option maxRecDepth 100000 in
theorem len64_zero (W : World) : Calls Try.prog 92 #[.int .u64 0] W fun e W' => (∃ k : Int, e = .returned (.int .i64 k)) ∧ W' = W := by
  go_enter Try.func92, Try.ntmps92
  go_wp2_with fail
  go_ret
  exact ⟨⟨_, rfl⟩, rfl⟩
set_option maxRecDepth 100000 in
theorem len_zero (W : World) : Calls Try.prog 81 #[.int .u64 0] W fun e W' => (∃ k : Int, e = .returned (.int .i64 k)) ∧ W' = W := by
  go_enter Try.func81, Try.ntmps81
  go_wp2_with fail
  refine (len64_zero _).mono ?_
  rintro e w1 ⟨⟨k, rfl⟩, rfl⟩
  go_wp2_with fail
  go_ret
  exact ⟨⟨k, by simp⟩, rfl⟩
set_option maxRecDepth 100000 in
theorem ins_none (f : Value) (W : World) : Calls Try.prog 83 #[.slice none 0 0, .int .i64 0, .int .i64 0, f] W fun e W' => e = .returned (.tuple #[]) ∧ W' = W := by
  go_enter Try.func83, Try.ntmps83
  go_wp2_with fail
  refine wp_loop_rounds 1 ?_
  rw [rounds_succ]
  go_wp2_with fail
  go_end0
  exact ⟨rfl, rfl⟩
set_option maxRecDepth 100000 in
theorem pdq_none (k : Int) (f : Value) (W : World) : Calls Try.prog 80 #[.slice none 0 0, .int .i64 0, .int .i64 0, .int .i64 k, f] W fun e W' => e = .returned (.tuple #[]) ∧ W' = W := by
  go_enter Try.func80, Try.ntmps80
  go_wp2_with fail
  refine wp_loop_rounds 1 ?_
  rw [rounds_succ]
  go_wp2_with fail
  refine (ins_none f _).mono ?_
  rintro e w1 ⟨rfl, rfl⟩
  go_wp2_with fail
  (try simp only [Exit.inBlock, Exit.then])
  refine bodyPost_ret (results_none rfl _ _ _) rfl ?_
  exact ⟨rfl, rfl⟩
set_option maxRecDepth 100000 in
theorem sort_none (f : Value) (W : World) : Calls Try.prog 77 #[.slice none 0 0, f] W fun e W' => e = .returned (.tuple #[]) ∧ W' = W := by
  go_enter Try.func77, Try.ntmps77
  go_wp2_with fail
  refine (len_zero _).mono ?_
  rintro e w1 ⟨⟨k, rfl⟩, rfl⟩
  go_wp2_with fail
  refine (pdq_none k f _).mono ?_
  rintro e w1 ⟨rfl, rfl⟩
  go_wp2_with fail
  go_end0
  exact ⟨rfl, rfl⟩
theorem sort_pairs {W : World} {B : Nat} {v : Value} {l : List (Nat × Nat)} (h : PRow W B v l) (hl : l.length ≤ 8796093022208) :
    Calls Try.prog 77 #[v, .func (.func 78) #[] #[]] W fun e W' => e = .returned (.tuple #[]) ∧ (∃ l', l'.Perm l ∧ l'.Pairwise (fun a b => a.1 ≤ b.1) ∧ PRow W' B v l') ∧ Chg (fun k => v.ownBlock = some k) W W' := by
  have hs := h.2
  rcases h.1.2 with ⟨rfl, h1⟩ | ⟨g, cap, cur, rfl, hg, hb, hn, hcap, hsz, htk⟩
  · obtain rfl := List.length_eq_zero_iff.1 h1
    refine (sort_none _ W).mono ?_
    rintro e W' ⟨rfl, rfl⟩
    exact ⟨rfl, ⟨[], List.Perm.refl _, List.Pairwise.nil, h⟩, Chg.refl _ _⟩
  · have eg : ∀ args w, (callFunc 78 args).run Try.prog w = .ok (.enter 78 args) w := enters_of Try.func78 (by kernel_rfl) rfl
    have hcon := AnyQ.slices_SortFunc Try.laysSF 2 isAggP sizeOfP encP (fun _ => rfl) (fun x u hu => by simp [encP] at hu; rcases hu with rfl | rfl <;> rfl) cmpP swoP 78 #[] g 0 cap l.toArray W eg (cmpLaysP _ _ _ _) (holdsP hb htk) (lt_of hb) (by simp; omega)
    change Calls Try.prog 77 #[.slice (some ⟨g, 0, none⟩) l.length cap, .func (.func 78) #[] #[]] _ _ at hcon
    refine hcon.mono ?_
    rintro e W' ⟨rfl, d', n, os, ⟨p1, p2, p3⟩, hso, rfl⟩
    have hds : d'.size = l.length := by simpa using p1
    have hp : d'.toList.Perm l := by
      have e1 : d'.extract 0 l.toArray.size = d' := by rw [List.size_toArray, ← hds, Array.extract_size]
      rw [e1] at p3
      simpa using p3
    have hll : d'.toList.length = l.length := by simpa using hds
    refine ⟨rfl, ⟨d'.toList, hp, ?_, ⟨?_, fun x hx => hs x (hp.mem_iff.1 hx)⟩⟩, (Chg.refl _ W).grown (grownBy_sortedP d') (fun k e _ => e)⟩
    · refine List.pairwise_iff_getElem.2 (fun i j hi hj hij => ?_)
      have q := hso i j (Nat.zero_le _) hij (by simpa [hds] using hj)
      rw [ltP, getElem!_pos _ _ (by simpa using hj), getElem!_pos _ _ (by simpa using hi)] at q
      simp at q
      simpa using q
    · rw [hll]
      refine ⟨by rw [prRow_len, hll], .inr ⟨g, cap, _, rfl, hg, heap_sortedP d' hb, hn, hcap, by simp [putCells, hsz], ?_⟩⟩
      have q := take_putCellsP cur d'.toList (by rw [hll, hsz]; exact Nat.mul_le_mul_right 2 hn)
      rw [hll] at q
      simpa using q
set_option maxRecDepth 100000 in
set_option maxHeartbeats 4000000 in
theorem c_between {W : World} {b n : Nat} {f : Nat → Option Nat} (h : MapAt W b n f) (hn : n ≤ 8796093022000) {lo hi : Nat} (hlo : lo < 18446744073709551616) (hhi : hi < 18446744073709551616) :
    Calls Try.prog 71 #[.map (some b), .int .u64 (lo : Int), .int .u64 (hi : Int)] W fun e W' => (∃ v l, e = .returned v ∧ Lists f lo hi l ∧ PRow W' W.heap.size v l ∧ l.length ≤ n) ∧ Chg (fun _ => False) W W' := by
  obtain ⟨i0, hi0, hz0, hz1, hz2⟩ := info_parts infoPair
  obtain ⟨D, hown, r⟩ := h
  have hsz := hown.size_le
  have hbl := hown.lt
  have HR := keepH r
  clear r
  go_enter Try.func71, Try.ntmps71
  go_wp2_with (first | (at_range; refine wpList_range_own _ rfl _ 105 rfl 57 57 K64 Try.underlying105 _ b n _ rfl hown ?_; intro w1 hrg1 hg1 hs1))
  have HC1 : Hid (Chg (fun _ => False) W w1) := grown_chg hg1 (fun k e => by simp at e)
  have HRG := keepH hrg1
  clear hg1 hrg1 hown hs1
  go_frame
  go_loopw [7] (fun s wr => ∃ (left : Lit → Bool) (cnt : Nat) (l : List (Nat × Nat)), Hid (wr.ranges Try.prog 57 (plainElem Try.prog 57) b W.heap.size n D left cnt ∧ Part f lo hi left l ∧ l.length + cnt ≤ Maps.size D ∧ PRow wr (W.heap.size + 1) s l ∧ Chg (fun _ => False) W wr)) (fun _ wr => wr.rangeLeft b W.heap.size)
  case atStart => exact ⟨_, _, [], ⟨HRG.out, Part.start HR.out lo hi, by simp, PRow.nil _ _, HC1.out⟩⟩
  case round =>
    obtain ⟨left, cnt, l, HK⟩ := hrel
    have hrg := HK.out.1
    have hlc := HK.out.2.2.1
    go_wp2_with (first | (at_next; refine wpList_next_ranges_ii _ rfl _ rfl 57 57 .u64 .u64 K64 Try.underlying57 Try.underlying57 b W.heap.size n _ _ _ rfl hrg ?_ ?_))
    · intro h0 hl0
      have HL := keepH hl0
      clear hl0 hrg
      go_wp2_with fail
      refine (sort_pairs HK.out.2.2.2.1 (by omega)).mono ?_
      rintro e w4 ⟨rfl, ⟨l', hp, hs, hrow⟩, hc⟩
      have HZ : Hid (Lists f lo hi l' ∧ PRow w4 W.heap.size u7 l' ∧ l'.length ≤ n ∧ Chg (fun _ => False) W w4) := by
        refine ⟨HK.out.2.1.lists HL.out hp hs, ⟨?_, hrow.2⟩, by rw [hp.length_eq]; omega, HK.out.2.2.2.2.trans hc (fun _ _ x => x) (fun i hi e => by have := (HK.out.2.2.2.1.lt i e).1; omega)⟩
        refine ⟨hrow.1.1, ?_⟩
        rcases hrow.1.2 with q | ⟨g, cap, cur, q1, q2, q3⟩
        · exact .inl q
        · exact .inr ⟨g, cap, cur, q1, by omega, q3⟩
      clear hp hs hrow hc
      go_wp2_with fail
      go_ret
      exact ⟨⟨_, l', rfl, HZ.out.1, HZ.out.2.1, HZ.out.2.2.1⟩, HZ.out.2.2.2⟩
    · intro x c w2 cnt2 hwx hwc hlx hat hrg2 hlt hg2 hs2 hen
      obtain ⟨x, rfl, hx⟩ := nat_u64 hwx
      obtain ⟨c, rfl, hc⟩ := nat_u64 hwc
      have hf := HR.out.came hat
      have HC2 : Hid (Chg (fun _ => False) W w2) := HK.out.2.2.2.2.trans (grown_chg hg2 (F := fun k => k = W.heap.size) (fun k e => (Option.some.inj e).symm)) (fun _ _ x => x) (fun i hi e => by omega)
      have HF : Hid (f x = some c ∧ left (.int .u64 (x : Int)) = true) := ⟨hf, hlx⟩
      have HG2 := keepH hrg2
      have hmeas := hrg2.left_eq
      have hmeas0 := hrg.left_eq
      have HP2 := keepH (HK.out.2.2.2.1.kept hg2 (.inr (fun e => by have := (HK.out.2.2.2.1.lt _ e).1; omega)))
      clear hat hf hlx hwx hwc hg2 hs2 hrg2 hrg
      by_cases t1 : lo ≤ x
      · have q1 : (lo : Int) ≤ (x : Int) := by omega
        by_cases t2 : x ≤ hi
        · have q2 : (x : Int) ≤ (hi : Int) := by omega
          have T := keepH (And.intro t1 t2)
          have HX : Hid (x < 18446744073709551616 ∧ c < 18446744073709551616 ∧ l.length < 8796093022000) := ⟨hx, hc, by omega⟩
          clear t1 t2
          go_wp2_with (first | (at_builtin; go_loud (refine wpList_append_own_at _ rfl _ _ 22 rfl (W.heap.size + 1) 71 i0 (.agg #[.int .u64 0, .int .u64 0]) 2 16 Try.underlying22 hi0 hz0 hz1 hz2 rfl (by decide) _ _ _ rfl (HP2.out.1.kept (World.grownBy_alloc _ _ none) (by cases Value.ownBlock _ <;> simp)) ⟨_, 0, none⟩ 1 1 [.int .u64 (x : Int), .int .u64 (c : Int)] rfl rfl (cells_new _ _ rfl _ _) (by intro u hu; simp at hu; rcases hu with rfl | rfl <;> rfl) (by unfold maxLen; have := HX.out.2.2; omega) (by have := HX.out.2.2; omega) (by have := HG2.out.lt; simp; omega) ?_); intro v' w3 r1 r2 r3 r4; have R1 := keepH r1; have R2 := keepH r2; clear r1 r2 r3 r4))
          have HG3 := keepH ((HG2.out.alloc (.cells #[.int .u64 (x : Int), .int .u64 (c : Int)] 71)).kept R2.out (fun e => by have := (HP2.out.lt _ e.symm).1; have := HG2.out.owns.lt; have := HC2.out.size; omega) (fun e => by have := (HP2.out.lt _ e.symm).1; omega))
          have hmeas3 := HG3.out.left_eq
          go_roundw
          case rel => exact ⟨_, cnt2, l ++ [(x, c)], HG3.out, HK.out.2.1.more HF.out.1 HF.out.2 T.out.1 T.out.2, by simp; omega, PRow.add HP2.out.2 HX.out.1 HX.out.2.1 R1.out, (HC2.out.alloc _).trans (grown_chg (F := fun j => W.heap.size ≤ j) R2.out (fun j e => by have := (HP2.out.lt j e).1; omega)) (fun _ _ x => x) (fun j hj e => by omega)⟩
          case measure => rw [hmeas3, hmeas0]; exact hlt
        · have q2 : ¬ (x : Int) ≤ (hi : Int) := by omega
          have T : Hid (¬ (lo ≤ x ∧ x ≤ hi)) := fun z => t2 z.2
          clear t1 t2
          go_wp2_with fail
          go_roundw
          case rel => exact ⟨_, cnt2, l, HG2.out, HK.out.2.1.skip T.out, by omega, HP2.out, HC2.out⟩
          case measure => rw [hmeas, hmeas0]; exact hlt
      · have q1 : ¬ (lo : Int) ≤ (x : Int) := by omega
        have T : Hid (¬ (lo ≤ x ∧ x ≤ hi)) := fun z => t1 z.1
        clear t1
        go_wp2_with fail
        go_roundw
        case rel => exact ⟨_, cnt2, l, HG2.out, HK.out.2.1.skip T.out, by omega, HP2.out, HC2.out⟩
        case measure => rw [hmeas, hmeas0]; exact hlt
set_option maxRecDepth 100000 in
theorem c_all {W : World} {b n : Nat} {f : Nat → Option Nat} (h : MapAt W b n f) (hn : n ≤ 8796093022000) :
    Calls Try.prog 59 #[.map (some b)] W fun e W' => (∃ v l, e = .returned v ∧ Lists f 0 18446744073709551615 l ∧ PRow W' W.heap.size v l ∧ l.length ≤ n) ∧ Chg (fun _ => False) W W' := by
  have HB := keepH (c_between h hn (lo := 0) (hi := 18446744073709551615) (by omega) (by omega))
  clear h
  go_enter Try.func59, Try.ntmps59
  go_wp2_with fail
  refine HB.out.mono ?_
  rintro e w1 ⟨⟨v, l, rfl, h1, h2, h3⟩, h4⟩
  have HZ : Hid (Lists f 0 18446744073709551615 l ∧ PRow w1 W.heap.size v l ∧ l.length ≤ n ∧ Chg (fun _ => False) W w1) := ⟨h1, h2, h3, h4⟩
  clear h1 h2 h3 h4
  go_wp2_with fail
  go_ret
  exact ⟨⟨v, l, rfl, HZ.out.1, HZ.out.2.1, HZ.out.2.2.1⟩, HZ.out.2.2.2⟩
end Go.Proofs.Ytnhfpnhmdfgckaa
