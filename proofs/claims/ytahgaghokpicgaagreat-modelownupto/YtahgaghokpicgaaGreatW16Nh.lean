/- slices.SortFunc of pairs, maps.Equal, maps.EqualFunc: the layings at this program, in plain words (shelfG.sh printed it). -/
import Derived.Shelf.SlSortCmp.WholeK
import Derived.Shelf.SlMaps.Equal
import Derived.Test.YtahgaghokpicgaaGreatW1MsL
import Derived.Test.YtahgaghokpicgaaGreatW4Pi
import Derived.Test.YtahgaghokpicgaaGreatW15Ng
namespace Go.Proofs
open Go.Shelf
def Tryz.laysSF_ren : Go.Shelf.Ren := ⟨fun | 6 => 97 | 15 => 101 | 14 => 102 | 28 => 113 | 29 => 114 | 20 => 115 | 21 => 116 | 22 => 117 | 23 => 118 | 24 => 119 | 25 => 120 | 26 => 121 | 27 => 122 | 46 => 129 | 47 => 125 | 48 => 126 | 49 => 130 | 50 => 131 | 57 => 133 | n => n, fun | 22 => 37 | 24 => 86 | 25 => 164 | 3 => 3 | 39 => 168 | 0 => 0 | 53 => 181 | 55 => 30 | 4 => 4 | 46 => 173 | 45 => 172 | 50 => 178 | 5 => 5 | 9 => 9 | 66 => 187 | 70 => 191 | 76 => 195 | 77 => 196 | n => n, fun | n => n⟩
theorem Tryz.laysSF : Go.Proofs.SlLaysF0.n6 Tryz.prog Tryz.laysSF_ren := {
 mixed := by kernel_rfl
 f6 := ⟨Tryz.f97.name, by decide, Tryz.func97.trans (congrArg some (by kernel_rfl))⟩
 f14 := ⟨Tryz.f102.name, by decide, Tryz.func102.trans (congrArg some (by kernel_rfl))⟩
 f15 := Tryz.func101.trans (congrArg some (by kernel_rfl))
 f20 := ⟨Tryz.f115.name, by decide, Tryz.func115.trans (congrArg some (by kernel_rfl))⟩
 f21 := ⟨Tryz.f116.name, by decide, Tryz.func116.trans (congrArg some (by kernel_rfl))⟩
 f22 := ⟨Tryz.f117.name, by decide, Tryz.func117.trans (congrArg some (by kernel_rfl))⟩
 f23 := ⟨Tryz.f118.name, by decide, Tryz.func118.trans (congrArg some (by kernel_rfl))⟩
 f24 := ⟨Tryz.f119.name, by decide, Tryz.func119.trans (congrArg some (by kernel_rfl))⟩
 f25 := ⟨Tryz.f120.name, by decide, Tryz.func120.trans (congrArg some (by kernel_rfl))⟩
 f26 := ⟨Tryz.f121.name, by decide, Tryz.func121.trans (congrArg some (by kernel_rfl))⟩
 f27 := ⟨Tryz.f122.name, by decide, Tryz.func122.trans (congrArg some (by kernel_rfl))⟩
 f28 := Tryz.func113.trans (congrArg some (by kernel_rfl))
 f29 := Tryz.func114.trans (congrArg some (by kernel_rfl))
 f46 := ⟨Tryz.f129.name, by decide, Tryz.func129.trans (congrArg some (by kernel_rfl))⟩
 f47 := Tryz.func125.trans (congrArg some (by kernel_rfl))
 f48 := Tryz.func126.trans (congrArg some (by kernel_rfl))
 f49 := ⟨Tryz.f130.name, by decide, Tryz.func130.trans (congrArg some (by kernel_rfl))⟩
 f50 := ⟨Tryz.f131.name, by decide, Tryz.func131.trans (congrArg some (by kernel_rfl))⟩
 f57 := ⟨Tryz.f133.name, by decide, Tryz.func133.trans (congrArg some (by kernel_rfl))⟩
 t0 := Tryz.underlying0
 a0 := Tryz.isAgg0
 z0 := Tryz.sizeOf0
 v0 := Tryz.zeroValue0
 t3 := Tryz.underlying3
 a3 := Tryz.isAgg3
 z3 := Tryz.sizeOf3
 v3 := Tryz.zeroValue3
 t4 := Tryz.underlying4
 a4 := Tryz.isAgg4
 z4 := Tryz.sizeOf4
 v4 := Tryz.zeroValue4
 t5 := Tryz.underlying5
 a5 := Tryz.isAgg5
 z5 := Tryz.sizeOf5
 v5 := Tryz.zeroValue5
 t9 := Tryz.underlying9
 a9 := Tryz.isAgg9
 z9 := Tryz.sizeOf9
 v9 := Tryz.zeroValue9
 t22 := Tryz.underlying37
 a22 := Tryz.isAgg37
 z22 := Tryz.sizeOf37
 v22 := Tryz.zeroValue37
 t25 := Tryz.underlying164
 a25 := Tryz.isAgg164
 z25 := Tryz.sizeOf164
 v25 := Tryz.zeroValue164
 t39 := Tryz.underlying168
 a39 := Tryz.isAgg168
 z39 := Tryz.sizeOf168
 v39 := Tryz.zeroValue168
 t45 := Tryz.underlying172
 a45 := Tryz.isAgg172
 z45 := Tryz.sizeOf172
 v45 := Tryz.zeroValue172
 t46 := Tryz.underlying173
 a46 := Tryz.isAgg173
 z46 := Tryz.sizeOf173
 v46 := Tryz.zeroValue173
 t50 := Tryz.underlying178
 a50 := Tryz.isAgg178
 z50 := Tryz.sizeOf178
 v50 := Tryz.zeroValue178
 t53 := Tryz.underlying181
 a53 := Tryz.isAgg181
 z53 := Tryz.sizeOf181
 v53 := Tryz.zeroValue181
 t55 := Tryz.underlying30
 a55 := Tryz.isAgg30
 z55 := Tryz.sizeOf30
 v55 := Tryz.zeroValue30
 t66 := Tryz.underlying187
 a66 := Tryz.isAgg187
 z66 := Tryz.sizeOf187
 v66 := Tryz.zeroValue187
 t70 := Tryz.underlying191
 a70 := Tryz.isAgg191
 z70 := Tryz.sizeOf191
 v70 := Tryz.zeroValue191
 t76 := Tryz.underlying195
 a76 := Tryz.isAgg195
 z76 := Tryz.sizeOf195
 v76 := Tryz.zeroValue195
 t77 := Tryz.underlying196
 a77 := Tryz.isAgg196
 z77 := Tryz.sizeOf196
 v77 := Tryz.zeroValue196 }
def Tryz.laysME_ren : Go.Shelf.Ren := ⟨fun | 6 => 33 | n => n, fun | 23 => 97 | 24 => 97 | 26 => 30 | 27 => 30 | 4 => 4 | 3 => 3 | 0 => 0 | 36 => 117 | n => n, fun | n => n⟩
theorem Tryz.laysME : Go.Proofs.SlLaysEq.n6 Tryz.prog Tryz.laysME_ren := {
 mixed := by kernel_rfl
 f6 := ⟨Tryz.f33.name, by decide, Tryz.func33.trans (congrArg some (by kernel_rfl))⟩
 t0 := Tryz.underlying0
 a0 := Tryz.isAgg0
 z0 := Tryz.sizeOf0
 v0 := Tryz.zeroValue0
 t3 := Tryz.underlying3
 a3 := Tryz.isAgg3
 z3 := Tryz.sizeOf3
 v3 := Tryz.zeroValue3
 t4 := Tryz.underlying4
 a4 := Tryz.isAgg4
 z4 := Tryz.sizeOf4
 v4 := Tryz.zeroValue4
 t23 := Tryz.underlying97
 a23 := Tryz.isAgg97
 z23 := Tryz.sizeOf97
 v23 := Tryz.zeroValue97
 t24 := Tryz.underlying97
 a24 := Tryz.isAgg97
 z24 := Tryz.sizeOf97
 v24 := Tryz.zeroValue97
 a26 := Tryz.isAgg30
 z26 := Tryz.sizeOf30
 a27 := Tryz.isAgg30
 z27 := Tryz.sizeOf30
 t36 := Tryz.underlying117
 a36 := Tryz.isAgg117
 z36 := Tryz.sizeOf117 }
def Tryz.laysMF_ren : Go.Shelf.Ren := ⟨fun | 7 => 34 | n => n, fun | 23 => 98 | 29 => 98 | 26 => 30 | 27 => 97 | 31 => 97 | 32 => 106 | 4 => 4 | 3 => 3 | 0 => 0 | 37 => 131 | n => n, fun | n => n⟩
set_option maxRecDepth 1000000 in
theorem Tryz.laysMF : Go.Proofs.SlLaysEq.n7 Tryz.prog Tryz.laysMF_ren := {
 mixed := by kernel_rfl
 f7 := ⟨Tryz.f34.name, by decide, Tryz.func34.trans (congrArg some (by kernel_rfl))⟩
 t0 := Tryz.underlying0
 a0 := Tryz.isAgg0
 z0 := Tryz.sizeOf0
 v0 := Tryz.zeroValue0
 t3 := Tryz.underlying3
 a3 := Tryz.isAgg3
 z3 := Tryz.sizeOf3
 v3 := Tryz.zeroValue3
 t4 := Tryz.underlying4
 a4 := Tryz.isAgg4
 z4 := Tryz.sizeOf4
 v4 := Tryz.zeroValue4
 t23 := Tryz.underlying98
 a23 := Tryz.isAgg98
 z23 := Tryz.sizeOf98
 v23 := Tryz.zeroValue98
 a26 := Tryz.isAgg30
 z26 := Tryz.sizeOf30
 a27 := Tryz.isAgg97
 z27 := Tryz.sizeOf97
 t29 := Tryz.underlying98
 a29 := Tryz.isAgg98
 z29 := Tryz.sizeOf98
 v29 := Tryz.zeroValue98
 a31 := Tryz.isAgg97
 z31 := Tryz.sizeOf97
 t32 := Tryz.underlying106
 a32 := Tryz.isAgg106
 z32 := Tryz.sizeOf106
 v32 := Tryz.zeroValue106
 t37 := Tryz.underlying131
 a37 := Tryz.isAgg131
 z37 := Tryz.sizeOf131 }
end Go.Proofs
namespace Go.Proofs.YtahgaghokpicgaaGreat
open Go.RowKit Go.Maps Go.Shelf Go.Sort
set_option linter.unusedVariables false
set_option maxHeartbeats 16000000
def encP (x : Nat × Nat) : List Value := [.int .u64 x.1, .int .u64 x.2]
def cmpP (x y : Nat × Nat) : Int := if x.1 < y.1 then -1 else if y.1 < x.1 then 1 else 0
theorem ltP (x y : Nat × Nat) : ltOf cmpP x y = decide (x.1 < y.1) := by
 unfold ltOf cmpP
 by_cases h1 : x.1 < y.1
 ·simp [h1]
 ·by_cases h2 : y.1 < x.1 <;> simp [h1, h2]
theorem swoP : SWO (ltOf cmpP) := {
 irrefl := fun x => by rw [ltP]; simp
 trans := fun x y z h1 h2 => by rw [ltP] at *; simp at *; omega
 ntrans := fun x y z h1 h2 => by rw [ltP] at *; simp at *; omega }
set_option maxRecDepth 100000 in
theorem isNaN_u (x : Int) (W : World) : Calls Tryz.prog 123 #[.int .u64 x] W fun e W' => e = .returned (.bool false) ∧ W' = W := by
 go_enter Tryz.func123, Tryz.ntmps123
 go_wp2_with fail
 go_ret
 exact ⟨by simp, rfl⟩
set_option maxRecDepth 100000 in
theorem cmp_u (x y : Nat × Nat) (W : World) : Calls Tryz.prog 103 #[.int .u64 x.1, .int .u64 y.1] W fun e W' => e = .returned (.int .i64 (cmpP x y)) ∧ W' = W := by
 have hN := fun z W => keepH (isNaN_u z W)
 unfold cmpP
 by_cases h1 : x.1 < y.1
 ·have q : (x.1 : Int) < (y.1 : Int) := by omega
  rw [if_pos h1]
  clear h1
  go_enter Tryz.func103, Tryz.ntmps103
  go_wp2_with (go_at_call 123; refine (hN _ _).out.mono ?_; rintro e w' ⟨rfl, rfl⟩)
  go_ret
  exact ⟨by simp, rfl⟩
 ·have q : ¬ (x.1 : Int) < (y.1 : Int) := by omega
  rw [if_neg h1]
  by_cases h2 : y.1 < x.1
  ·have q2 : (y.1 : Int) < (x.1 : Int) := by omega
   rw [if_pos h2]
   clear h1 h2
   go_enter Tryz.func103, Tryz.ntmps103
   go_wp2_with (go_at_call 123; refine (hN _ _).out.mono ?_; rintro e w' ⟨rfl, rfl⟩)
   go_ret
   exact ⟨by simp, rfl⟩
  ·have q2 : ¬ (y.1 : Int) < (x.1 : Int) := by omega
   rw [if_neg h2]
   clear h1 h2
   go_enter Tryz.func103, Tryz.ntmps103
   go_wp2_with (go_at_call 123; refine (hN _ _).out.mono ?_; rintro e w' ⟨rfl, rfl⟩)
   go_ret
   exact ⟨by simp, rfl⟩
set_option maxRecDepth 100000 in
theorem byKey_any (x y : Nat × Nat) (W : World) : Calls Tryz.prog 98 #[.agg #[.int .u64 x.1, .int .u64 x.2], .agg #[.int .u64 y.1, .int .u64 y.2]] W fun e w' => e = .returned (.int .i64 (cmpP x y)) ∧ ∃ q os', w' = grow (W.drewN q) os' := by
 have hC := fun W => keepH (cmp_u x y W)
 go_enter Tryz.func98, Tryz.ntmps98
 go_wp2_with (go_at_call 103; refine (hC _).out.mono ?_; rintro e w' ⟨rfl, rfl⟩)
 go_ret
 exact ⟨by simp, 0, _, by rw [alloc_eq_grow, alloc_eq_grow, grow_grow]; rfl⟩
theorem cmpLaysP (blk off size : Nat) (w : World) : CmpLays Tryz.prog 98 #[] encP 2 cmpP blk off size w := fun _ _ _ _ x y => byKey_any x y _
theorem flatP (l : List (Nat × Nat)) : (flatK encP 2 l.toArray).toList = prRow l := by
 apply List.ext_getElem?
 intro j
 by_cases hj : j < l.length * 2
 ·have e1 : (flatK encP 2 l.toArray).toList[j]? = some ((encP l.toArray[j / 2]!)[j % 2]!) := by
    rw [Array.getElem?_toList, Array.getElem?_eq_getElem (by simpa using hj), ← getElem!_pos _ j (by simpa using hj), get_flatK _ _ _ _ (by simpa using hj)]
  rw [e1]
  obtain ⟨⟨k, x⟩, hk⟩ : ∃ y, l[j / 2]? = some y := ⟨l[j / 2]'(by omega), List.getElem?_eq_getElem _⟩
  have e2 : l.toArray[j / 2]! = (k, x) := by
   obtain ⟨h, e⟩ := List.getElem?_eq_some_iff.1 hk
   rw [getElem!_pos _ _ (by simpa using h)]
   simpa using e
  obtain ⟨q1, q2⟩ := prRow_get l (j / 2) k x hk
  rw [e2]
  rcases Nat.mod_two_eq_zero_or_one j with m | m
  ·rw [m, show j = j / 2 * 2 by omega, q1]; simp [encP]
  ·rw [m, show j = j / 2 * 2 + 1 by omega, q2]; simp [encP]
 ·rw [List.getElem?_eq_none (by simp; omega), List.getElem?_eq_none (by rw [prRow_len]; omega)]
theorem flatP_get (l : List (Nat × Nat)) (j : Nat) (hj : j < l.length * 2) : (prRow l)[j]? = some ((flatK encP 2 l.toArray)[j]!) := by
 rw [← flatP, Array.getElem?_toList, Array.getElem?_eq_getElem (by simpa using hj), ← getElem!_pos _ j (by simpa using hj)]
theorem holdsP {W : World} {g : Nat} {cur : Array Value} {e : TypeId} {l : List (Nat × Nat)} (hb : W.heap[g]? = some (.cells cur e (0, 0))) (ht : cur.toList.take (l.length * 2) = prRow l) : HoldsK encP 2 W g 0 l.toArray := by
 intro j hj
 have hj' : j < l.length * 2 := by simpa using hj
 refine ⟨?_, by simp [World.frozen?, hb]⟩
 have h1 := flatP_get l j hj'
 rw [← ht, List.getElem?_take_of_lt hj'] at h1
 rw [Nat.zero_add, cell_of hb, ← Array.getElem?_toList, h1]
 rfl
theorem heap_sortedP {W : World} {g n : Nat} {os : Array Obj} {cur : Array Value} {e : TypeId} {fr : Nat × Nat} (d : Array (Nat × Nat)) (hb : W.heap[g]? = some (.cells cur e fr)) :
    (sortWorldK encP 2 W g 0 n d os).heap[g]? = some (.cells (putCells id 0 (flatK encP 2 d) cur) e fr) := by
 have hg : g < W.heap.size := (Array.getElem?_eq_some_iff.1 hb).1
 unfold sortWorldK putRowK
 rw [heap_grow_old _ _ (by simpa using hg)]
 simp [putRow, mapBlock, Sort.ahead, Array.getElem?_modify, hb, onCells]
theorem grownBy_sortedP {W : World} {g n : Nat} {os : Array Obj} (d : Array (Nat × Nat)) : W.grownBy (sortWorldK encP 2 W g 0 n d os) (some g) := by
 unfold sortWorldK putRowK
 refine ⟨rfl, rfl, rfl, by simp, fun k hk hne => ?_⟩
 rw [heap_grow_old _ _ (by simpa using hk)]
 have : g ≠ k := fun e => hne (by rw [e])
 simp [putRow, mapBlock, Sort.ahead, Array.getElem?_modify, this]
theorem take_putCellsP (cur : Array Value) (l : List (Nat × Nat)) (h : l.length * 2 ≤ cur.size) : (putCells id 0 (flatK encP 2 l.toArray) cur).toList.take (l.length * 2) = prRow l := by
 apply List.ext_getElem?
 intro j
 by_cases hj : j < l.length * 2
 ·rw [List.getElem?_take_of_lt hj, flatP_get l j hj, Array.getElem?_toList]
  simp [putCells, hj, show j < cur.size by omega]
 ·rw [List.getElem?_take_eq_none (by omega), List.getElem?_eq_none (by rw [prRow_len]; omega)]
theorem isAggP (w : World) : (isAgg 86).run Tryz.prog w = .ok true w := by kernel_rfl
theorem sizeOfP (w : World) : (Go.sizeOf 86).run Tryz.prog w = .ok 2 w := by kernel_rfl
set_option maxRecDepth 100000 in
theorem len64_zero (W : World) : Calls Tryz.prog 114 #[.int .u64 0] W fun e W' => (∃ k : Int, e = .returned (.int .i64 k)) ∧ W' = W := by
 go_enter Tryz.func114, Tryz.ntmps114
 go_wp2_with fail
 go_ret
 exact ⟨⟨_, rfl⟩, rfl⟩
set_option maxRecDepth 100000 in
theorem len_zero (W : World) : Calls Tryz.prog 101 #[.int .u64 0] W fun e W' => (∃ k : Int, e = .returned (.int .i64 k)) ∧ W' = W := by
 go_enter Tryz.func101, Tryz.ntmps101
 go_wp2_with fail
 refine (len64_zero _).mono ?_
 rintro e w1 ⟨⟨k, rfl⟩, rfl⟩
 go_wp2_with fail
 go_ret
 exact ⟨⟨k, by simp⟩, rfl⟩
set_option maxRecDepth 100000 in
theorem ins_none (f : Value) (W : World) : Calls Tryz.prog 115 #[.slice none 0 0, .int .i64 0, .int .i64 0, f] W fun e W' => e = .returned (.tuple #[]) ∧ W' = W := by
 go_enter Tryz.func115, Tryz.ntmps115
 go_wp2_with fail
 refine wp_loop_rounds 1 ?_
 rw [rounds_succ]
 go_wp2_with fail
 go_end0
 exact ⟨rfl, rfl⟩
set_option maxRecDepth 100000 in
theorem pdq_none (k : Int) (f : Value) (W : World) : Calls Tryz.prog 102 #[.slice none 0 0, .int .i64 0, .int .i64 0, .int .i64 k, f] W fun e W' => e = .returned (.tuple #[]) ∧ W' = W := by
 go_enter Tryz.func102, Tryz.ntmps102
 go_wp2_with fail
 refine wp_loop_rounds 1 ?_
 rw [rounds_succ]
 go_wp2_with fail
 refine (ins_none f _).mono ?_
 rintro e w1 ⟨rfl, rfl⟩
 go_wp2_with fail
 (try simp only [Exit.inBlock, Exit.then])
 refine bodyPost_ret (results_none rfl _ _ _) rfl ?_
 exact ⟨rfl, rfl⟩
set_option maxRecDepth 100000 in
theorem sort_none (f : Value) (W : World) : Calls Tryz.prog 97 #[.slice none 0 0, f] W fun e W' => e = .returned (.tuple #[]) ∧ W' = W := by
 go_enter Tryz.func97, Tryz.ntmps97
 go_wp2_with fail
 refine (len_zero _).mono ?_
 rintro e w1 ⟨⟨k, rfl⟩, rfl⟩
 go_wp2_with fail
 refine (pdq_none k f _).mono ?_
 rintro e w1 ⟨rfl, rfl⟩
 go_wp2_with fail
 go_end0
 exact ⟨rfl, rfl⟩
theorem sort_pairs {W : World} {B : Nat} {v : Value} {l : List (Nat × Nat)} (h : PRow W B v l) (hl : l.length ≤ 8796093022208) :
    Calls Tryz.prog 97 #[v, .func (.func 98) #[] #[]] W fun e W' => e = .returned (.tuple #[]) ∧ (∃ l', l'.Perm l ∧ l'.Pairwise (fun a b => a.1 ≤ b.1) ∧ PRow W' B v l') ∧ Chg (fun k => v.ownBlock = some k) W W' := by
 have hs := h.2
 rcases h.1.2 with ⟨rfl, h1⟩ | ⟨g, cap, cur, rfl, hg, hb, hn, hcap, hsz, htk⟩
 ·obtain rfl := List.length_eq_zero_iff.1 h1
  refine (sort_none _ W).mono ?_
  rintro e W' ⟨rfl, rfl⟩
  exact ⟨rfl, ⟨[], List.Perm.refl _, List.Pairwise.nil, h⟩, Chg.refl _ _⟩
 ·have eg : ∀ args w, (callFunc 98 args).run Tryz.prog w = .ok (.enter 98 args) w := enters_of Tryz.func98 (by kernel_rfl) rfl
  have hcon := AnyQ.slices_SortFunc Tryz.laysSF 2 isAggP sizeOfP encP (fun _ => rfl) (fun x u hu => by simp [encP] at hu; rcases hu with rfl | rfl <;> rfl) cmpP swoP 98 #[] g 0 cap l.toArray W eg (cmpLaysP _ _ _ _) (holdsP hb htk) (lt_of hb) (by simp; omega)
  change Calls Tryz.prog 97 #[.slice (some ⟨g, 0, none⟩) l.length cap, .func (.func 98) #[] #[]] _ _ at hcon
  refine hcon.mono ?_
  rintro e W' ⟨rfl, d', n, os, ⟨p1, p2, p3⟩, hso, rfl⟩
  have hds : d'.size = l.length := by simpa using p1
  have hp : d'.toList.Perm l := by
   have e1 : d'.extract 0 l.toArray.size = d' := by rw [List.size_toArray, ← hds, Array.extract_size]
   rw [e1] at p3
   simpa using p3
  have hll : d'.toList.length = l.length := by simpa using hds
  refine ⟨rfl, ⟨d'.toList, hp, ?_, ⟨?_, fun x hx => hs x (hp.mem_iff.1 hx)⟩⟩, (Chg.refl _ W).grown (grownBy_sortedP d') (fun k e _ => e)⟩
  ·refine List.pairwise_iff_getElem.2 (fun i j hi hj hij => ?_)
   have q := hso i j (Nat.zero_le _) hij (by simpa [hds] using hj)
   rw [ltP, getElem!_pos _ _ (by simpa using hj), getElem!_pos _ _ (by simpa using hi)] at q
   simp at q
   simpa using q
  ·rw [hll]
   refine ⟨by rw [prRow_len, hll], .inr ⟨g, cap, _, rfl, hg, heap_sortedP d' hb, hn, hcap, by simp [putCells, hsz], ?_⟩⟩
   have q := take_putCellsP cur d'.toList (by rw [hll, hsz]; exact Nat.mul_le_mul_right 2 hn)
   rw [hll] at q
   simpa using q
set_option maxRecDepth 100000 in
theorem c_between {W : World} {b n : Nat} {f : Nat → Option Nat} (h : MapAt W b n f) (hn : n ≤ 8796093022000) {lo hi : Nat} (hlo : lo < 18446744073709551616) (hhi : hi < 18446744073709551616) :
    Calls Tryz.prog 89 #[.map (some b), .int .u64 lo, .int .u64 hi] W fun e W' => (∃ v l, e = .returned v ∧ Lists f lo hi l ∧ PRow W' W.heap.size v l ∧ l.length ≤ n) ∧ Chg (fun _ => False) W W' := by
 obtain ⟨i0, hi0, hz0, hz1, hz2⟩ := info_parts infoPair
 obtain ⟨D, hown, r⟩ := h
 have hsz := hown.size_le
 have hbl := hown.lt
 have HR := keepH r
 clear r
 go_enter Tryz.func89, Tryz.ntmps89
 go_wp2_with (first | (at_range; refine wpList_range_own _ rfl _ 97 rfl 30 30 K64 Tryz.underlying97 _ b n _ rfl hown ?_; intro w1 hrg1 hg1 hs1))
 have HC1 : Hid (Chg (fun _ => False) W w1) := grown_chg hg1 (fun k e => by simp at e)
 have HRG := keepH hrg1
 clear hg1 hrg1 hown hs1
 go_frame
 go_loopw [7] (fun s wr => ∃ (left : Lit → Bool) (cnt : Nat) (l : List (Nat × Nat)), Hid (wr.ranges Tryz.prog 30 (plainElem Tryz.prog 30) b W.heap.size n D left cnt ∧ Part f lo hi left l ∧ l.length + cnt ≤ Maps.size D ∧ PRow wr (W.heap.size + 1) s l ∧ Chg (fun _ => False) W wr)) (fun _ wr => wr.rangeLeft b W.heap.size)
 case atStart => exact ⟨_, _, [], ⟨HRG.out, Part.start HR.out lo hi, by simp, PRow.nil _ _, HC1.out⟩⟩
 case round =>
  obtain ⟨left, cnt, l, HK⟩ := hrel
  have hrg := HK.out.1
  have hlc := HK.out.2.2.1
  go_wp2_with (first | (at_next; refine wpList_next_ranges_ii _ rfl _ rfl 30 30 .u64 .u64 K64 Tryz.underlying30 Tryz.underlying30 b W.heap.size n _ _ _ rfl hrg ?_ ?_))
  ·intro h0 hl0
   have HL := keepH hl0
   clear hl0 hrg
   go_wp2_with fail
   refine (sort_pairs HK.out.2.2.2.1 (by omega)).mono ?_
   rintro e w4 ⟨rfl, ⟨l', hp, hs, hrow⟩, hc⟩
   have HZ : Hid (Lists f lo hi l' ∧ PRow w4 W.heap.size u7 l' ∧ l'.length ≤ n ∧ Chg (fun _ => False) W w4) := by
    refine ⟨HK.out.2.1.lists HL.out hp hs, ⟨?_, hrow.2⟩, by rw [hp.length_eq]; omega, HK.out.2.2.2.2.trans hc (fun _ _ x => x) (fun i hi e => by have := (HK.out.2.2.2.1.lt i e).1; omega)⟩
    refine ⟨hrow.1.1, ?_⟩
    rcases hrow.1.2 with q | ⟨g, cap, cur, q1, q2, q3⟩
    ·exact .inl q
    ·exact .inr ⟨g, cap, cur, q1, by omega, q3⟩
   clear hp hs hrow hc
   go_wp2_with fail
   go_ret
   exact ⟨⟨_, l', rfl, HZ.out.1, HZ.out.2.1, HZ.out.2.2.1⟩, HZ.out.2.2.2⟩
  ·intro x c w2 cnt2 hwx hwc hlx hat hrg2 hlt hg2 hs2 hen
   obtain ⟨x, rfl, hx⟩ := nat_u64 hwx
   obtain ⟨c, rfl, hc⟩ := nat_u64 hwc
   have hf := HR.out.came hat
   have HC2 : Hid (Chg (fun _ => False) W w2) := HK.out.2.2.2.2.trans (grown_chg hg2 (F := fun k => k = W.heap.size) (fun k e => (Option.some.inj e).symm)) (fun _ _ x => x) (fun i hi e => by omega)
   have HF : Hid (f x = some c ∧ left (.int .u64 x) = true) := ⟨hf, hlx⟩
   have HG2 := keepH hrg2
   have hmeas := hrg2.left_eq
   have hmeas0 := hrg.left_eq
   have HP2 := keepH (HK.out.2.2.2.1.kept hg2 (.inr (fun e => by have := (HK.out.2.2.2.1.lt _ e).1; omega)))
   clear hat hf hlx hwx hwc hg2 hs2 hrg2 hrg
   by_cases t1 : lo ≤ x
   ·have q1 : (lo : Int) ≤ (x : Int) := by omega
    by_cases t2 : x ≤ hi
    ·have q2 : (x : Int) ≤ (hi : Int) := by omega
     have T := keepH (And.intro t1 t2)
     have HX : Hid (x < 18446744073709551616 ∧ c < 18446744073709551616 ∧ l.length < 8796093022000) := ⟨hx, hc, by omega⟩
     clear t1 t2
     go_wp2_with (first | (at_builtin; go_loud (refine wpList_append_own_at _ rfl _ _ 37 rfl (W.heap.size + 1) 86 i0 (.agg #[.int .u64 0, .int .u64 0]) 2 16 Tryz.underlying37 hi0 hz0 hz1 hz2 rfl (by decide) _ _ _ rfl (HP2.out.1.kept (World.grownBy_alloc _ _ none) (by cases Value.ownBlock _ <;> simp)) ⟨_, 0, none⟩ 1 1 [.int .u64 x, .int .u64 c] rfl rfl (cells_new _ _ rfl _ _) (by intro u hu; simp at hu; rcases hu with rfl | rfl <;> rfl) (by unfold maxLen; have := HX.out.2.2; omega) (by have := HX.out.2.2; omega) (by have := HG2.out.lt; simp; omega) ?_); intro v' w3 r1 r2 r3 r4; have R1 := keepH r1; have R2 := keepH r2; clear r1 r2 r3 r4))
     have HG3 := keepH ((HG2.out.alloc (.cells #[.int .u64 x, .int .u64 c] 86)).kept R2.out (fun e => by have := (HP2.out.lt _ e.symm).1; have := HG2.out.owns.lt; have := HC2.out.size; omega) (fun e => by have := (HP2.out.lt _ e.symm).1; omega))
     have hmeas3 := HG3.out.left_eq
     go_roundw
     case rel => exact ⟨_, cnt2, l ++ [(x, c)], HG3.out, HK.out.2.1.more HF.out.1 HF.out.2 T.out.1 T.out.2, by simp; omega, PRow.add HP2.out.2 HX.out.1 HX.out.2.1 R1.out, (HC2.out.alloc _).trans (grown_chg (F := fun j => W.heap.size ≤ j) R2.out (fun j e => by have := (HP2.out.lt j e).1; omega)) (fun _ _ x => x) (fun j hj e => by omega)⟩
     case measure => rw [hmeas3, hmeas0]; exact hlt
    ·have q2 : ¬ (x : Int) ≤ (hi : Int) := by omega
     have T : Hid (¬ (lo ≤ x ∧ x ≤ hi)) := fun z => t2 z.2
     clear t1 t2
     go_wp2_with fail
     go_roundw
     case rel => exact ⟨_, cnt2, l, HG2.out, HK.out.2.1.skip T.out, by omega, HP2.out, HC2.out⟩
     case measure => rw [hmeas, hmeas0]; exact hlt
   ·have q1 : ¬ (lo : Int) ≤ (x : Int) := by omega
    have T : Hid (¬ (lo ≤ x ∧ x ≤ hi)) := fun z => t1 z.1
    clear t1
    go_wp2_with fail
    go_roundw
    case rel => exact ⟨_, cnt2, l, HG2.out, HK.out.2.1.skip T.out, by omega, HP2.out, HC2.out⟩
    case measure => rw [hmeas, hmeas0]; exact hlt
set_option maxRecDepth 100000 in
theorem c_all {W : World} {b n : Nat} {f : Nat → Option Nat} (h : MapAt W b n f) (hn : n ≤ 8796093022000) :
    Calls Tryz.prog 53 #[.map (some b)] W fun e W' => (∃ v l, e = .returned v ∧ Lists f 0 18446744073709551615 l ∧ PRow W' W.heap.size v l ∧ l.length ≤ n) ∧ Chg (fun _ => False) W W' := by
 have HB := keepH (c_between h hn (lo := 0) (hi := 18446744073709551615) (by omega) (by omega))
 clear h
 go_enter Tryz.func53, Tryz.ntmps53
 go_wp2_with fail
 refine HB.out.mono ?_
 rintro e w1 ⟨⟨v, l, rfl, h1, h2, h3⟩, h4⟩
 have HZ : Hid (Lists f 0 18446744073709551615 l ∧ PRow w1 W.heap.size v l ∧ l.length ≤ n ∧ Chg (fun _ => False) W w1) := ⟨h1, h2, h3, h4⟩
 clear h1 h2 h3 h4
 go_wp2_with fail
 go_ret
 exact ⟨⟨v, l, rfl, HZ.out.1, HZ.out.2.1, HZ.out.2.2.1⟩, HZ.out.2.2.2⟩
end Go.Proofs.YtahgaghokpicgaaGreat
namespace Go.Proofs.YtahgaghokpicgaaGreat
open Go.RowKit Go.Maps
set_option linter.unusedVariables false
set_option maxHeartbeats 16000000
set_option maxRecDepth 100000 in
theorem asks_no {k v od hk lo hi kn kc : Nat} {r5 : Bool} {r6 r7 : Int} {kp : Option Addr} {kd : Int} {W : World} {m nw hd mu : Nat} {f h : Nat → Option Nat} {g : Nat → Nat → Option Nat} {n : Nat} (H : MoAt W m nw hd mu f h g n) (hk64 : hk < 18446744073709551616) (hh : h hk = none) :
    Calls Tryz.prog 84 #[.pointer (some ⟨m, 0, none⟩), .agg #[.int .u8 kd, .int .u64 k, .int .u64 v, .int .u64 od, .int .u64 hk, .bool r5, .int .i64 r6, .int .i64 r7, .slice kp kn kc, .int .u64 lo, .int .u64 hi]] W fun e W' => e = .returned (.agg #[.int .i64 33, .bool false, .int .u64 0, .bool false, .int .u64 0, .slice none 0 0, .int .u64 0]) ∧ Chg (fun _ => False) W W' := by
 obtain ⟨w0, hw0⟩ : ∃ w0, w0 = (W.alloc (.cells #[.int .u8 kd, .int .u64 k, .int .u64 v, .int .u64 od, .int .u64 hk, .bool r5, .int .i64 r6, .int .i64 r7, .slice kp kn kc, .int .u64 lo, .int .u64 hi] 35)).alloc (.cells #[.int .i64 0, .bool false, .int .u64 0, .bool false, .int .u64 0, .slice none 0 0, .int .u64 0] 39) := ⟨_, rfl⟩
 have C0 : Chg (fun _ => False) W w0 := by rw [hw0]; exact ((Chg.refl _ _).alloc _).alloc _
 have o0 : w0.heap[W.heap.size]? = some (.cells #[.int .u8 kd, .int .u64 k, .int .u64 v, .int .u64 od, .int .u64 hk, .bool r5, .int .i64 r6, .int .i64 r7, .slice kp kn kc, .int .u64 lo, .int .u64 hi] 35 (0, 0)) := by rw [hw0]; exact alloc_of (heap_alloc_new _ _) _
 have a0 : w0.heap[W.heap.size + 1]? = some (.cells #[.int .i64 0, .bool false, .int .u64 0, .bool false, .int .u64 0, .slice none 0 0, .int .u64 0] 39 (0, 0)) := by
  rw [hw0]
  exact al2
 have HS0 : Hid (w0.cell? ⟨m, 2, none⟩ = some (.map (some hd)) ∧ w0.cell? ⟨W.heap.size, 4, none⟩ = some (.int .u64 hk)) := ⟨cell_of (H.quiet C0).md 2, cell_of o0 4⟩
 obtain ⟨wd, hwd⟩ : ∃ wd, wd = w0.drew := ⟨_, rfl⟩
 have Cd : Chg (fun _ => False) W wd := by rw [hwd]; exact C0.drew
 have Md := H.quiet Cd
 have hl0 := HeldAt.look Md.held hk64
 rw [hh] at hl0
 rw [hwd] at hl0
 have od0 : wd.heap[W.heap.size]? = some (.cells #[.int .u8 kd, .int .u64 k, .int .u64 v, .int .u64 od, .int .u64 hk, .bool r5, .int .i64 r6, .int .i64 r7, .slice kp kn kc, .int .u64 lo, .int .u64 hi] 35 (0, 0)) := by rw [hwd]; exact o0
 have ad : wd.heap[W.heap.size + 1]? = some (.cells #[.int .i64 0, .bool false, .int .u64 0, .bool false, .int .u64 0, .slice none 0 0, .int .u64 0] 39 (0, 0)) := by rw [hwd]; exact a0
 have k0 : wd.cell? ⟨W.heap.size, 0, none⟩ = some (.int .u8 kd) := cell_of od0 0
 have k8 : wd.cell? ⟨W.heap.size, 8, none⟩ = some (.slice kp kn kc) := cell_of od0 8
 have k9 : wd.cell? ⟨W.heap.size, 9, none⟩ = some (.int .u64 lo) := cell_of od0 9
 have k10 : wd.cell? ⟨W.heap.size, 10, none⟩ = some (.int .u64 hi) := cell_of od0 10
 have HSZ : Hid (wd.heap.size = W.heap.size + 2) := by rw [hwd, hw0]; show _ = _; simp
 obtain ⟨w9, hw9⟩ : ∃ w9, w9 = wd.setCells (W.heap.size + 1) 0 (#[.int .i64 33, .bool false, .int .u64 0, .bool false, .int .u64 0, .slice none 0 0, .int .u64 0] : Array Value).toList := ⟨_, rfl⟩
 have A9 : w9.heap[W.heap.size + 1]? = some (.cells #[.int .i64 33, .bool false, .int .u64 0, .bool false, .int .u64 0, .slice none 0 0, .int .u64 0] 39 (0, 0)) := by
  rw [hw9]
  exact setCells_of 39 (W.heap.size + 1) (#[.int .i64 33, .bool false, .int .u64 0, .bool false, .int .u64 0, .slice none 0 0, .int .u64 0] : Array Value).toList [] (#[.int .i64 0, .bool false, .int .u64 0, .bool false, .int .u64 0, .slice none 0 0, .int .u64 0] : Array Value).toList [] wd ad rfl
 have K9 : Chg (fun i => i = W.heap.size + 1) wd w9 := by rw [hw9]; exact setCells_chg (W.heap.size + 1) _ 0 _
 have HC9 : Hid (Chg (fun _ => False) W w9) := (Cd).trans K9 (fun _ _ x => x) (fun i hi e => by omega)
 have HTH : Hid (wd.there (W.heap.size + 1) 0 7) := fun j hj => ⟨by rw [cell_of ad]; match j, hj with | 0, _ => rfl | 1, _ => rfl | 2, _ => rfl | 3, _ => rfl | 4, _ => rfl | 5, _ => rfl | 6, _ => rfl, free_of ad _⟩
 have HW := keepH hw9
 have q0 : w9.cell? ⟨W.heap.size + 1, 0, none⟩ = some (.int .i64 33) := cell_of A9 0
 have q1 : w9.cell? ⟨W.heap.size + 1, 1, none⟩ = some (.bool false) := cell_of A9 1
 have q2 : w9.cell? ⟨W.heap.size + 1, 2, none⟩ = some (.int .u64 0) := cell_of A9 2
 have q3 : w9.cell? ⟨W.heap.size + 1, 3, none⟩ = some (.bool false) := cell_of A9 3
 have q4 : w9.cell? ⟨W.heap.size + 1, 4, none⟩ = some (.int .u64 0) := cell_of A9 4
 have q5 : w9.cell? ⟨W.heap.size + 1, 5, none⟩ = some (.slice none 0 0) := cell_of A9 5
 have q6 : w9.cell? ⟨W.heap.size + 1, 6, none⟩ = some (.int .u64 0) := cell_of A9 6
 clear hw9 A9
 clear H C0 Cd Md o0 od0 a0 ad K9
 go_enter Tryz.func84, Tryz.ntmps84
 go_upto_region 1 with fail
 rw [← hw0]
 clear hw0
 go_region_held3 (fun w' => w'.cell? ⟨m, 2, none⟩ = some (.map (some hd)) ∧ w'.cell? ⟨W.heap.size, 4, none⟩ = some (.int .u64 hk)) (first | exact HS0.out) (fail)
 all_goals (
  rw [← hwd]
  clear hwd
  go_wp2_with (refine wpList_store_mid rfl 39 (.tmp 4) (.tmp 19) rfl (W.heap.size + 1) 0 #[.int .i64 33, .bool false, .int .u64 0, .bool false, .int .u64 0, .slice none 0 0, .int .u64 0] rfl rfl HTH.out (by kernel_rfl) (by kernel_rfl) ?_; rw [← HW.out]; clear HW HTH)
  (try go_wp2_with fail)
  refine bodyPost_ret (v := .agg #[.int .i64 33, .bool false, .int .u64 0, .bool false, .int .u64 0, .slice none 0 0, .int .u64 0]) (by simp [results, Tryz.results84, go_sem, q0, q1, q2, q3, q4, q5, q6]) rfl ⟨rfl, HC9.out⟩)
set_option maxRecDepth 100000 in
theorem asks_8 {k v od hk lo hi kn kc : Nat} {r5 : Bool} {r6 r7 : Int} {kp : Option Addr}  {W : World} {m nw hd mu : Nat} {f h : Nat → Option Nat} {g : Nat → Nat → Option Nat} {n : Nat} (H : MoAt W m nw hd mu f h g n) (hk64 : hk < 18446744073709551616) {b : Nat} (hh : h hk = some b) (hn : n ≤ 8796093022000) (hlo : lo < 18446744073709551616) (hhi : hi < 18446744073709551616) :
    Calls Tryz.prog 84 #[.pointer (some ⟨m, 0, none⟩), .agg #[.int .u8 8, .int .u64 k, .int .u64 v, .int .u64 od, .int .u64 hk, .bool r5, .int .i64 r6, .int .i64 r7, .slice kp kn kc, .int .u64 lo, .int .u64 hi]] W fun e W' => (∃ p c l, e = .returned (.agg #[.int .i64 0, .bool false, .int .u64 0, .bool false, .int .u64 0, .slice p l.length c, .int .u64 0]) ∧ (Lists (g b) lo hi l ∧ l.length ≤ n) ∧ OPairs W' p c l ∧ (∀ bk off, p = some ⟨bk, off, none⟩ → W.heap.size ≤ bk)) ∧ Chg (fun _ => False) W W' := by
 obtain ⟨w0, hw0⟩ : ∃ w0, w0 = (W.alloc (.cells #[.int .u8 8, .int .u64 k, .int .u64 v, .int .u64 od, .int .u64 hk, .bool r5, .int .i64 r6, .int .i64 r7, .slice kp kn kc, .int .u64 lo, .int .u64 hi] 35)).alloc (.cells #[.int .i64 0, .bool false, .int .u64 0, .bool false, .int .u64 0, .slice none 0 0, .int .u64 0] 39) := ⟨_, rfl⟩
 have C0 : Chg (fun _ => False) W w0 := by rw [hw0]; exact ((Chg.refl _ _).alloc _).alloc _
 have o0 : w0.heap[W.heap.size]? = some (.cells #[.int .u8 8, .int .u64 k, .int .u64 v, .int .u64 od, .int .u64 hk, .bool r5, .int .i64 r6, .int .i64 r7, .slice kp kn kc, .int .u64 lo, .int .u64 hi] 35 (0, 0)) := by rw [hw0]; exact alloc_of (heap_alloc_new _ _) _
 have a0 : w0.heap[W.heap.size + 1]? = some (.cells #[.int .i64 0, .bool false, .int .u64 0, .bool false, .int .u64 0, .slice none 0 0, .int .u64 0] 39 (0, 0)) := by
  rw [hw0]
  exact al2
 have HS0 : Hid (w0.cell? ⟨m, 2, none⟩ = some (.map (some hd)) ∧ w0.cell? ⟨W.heap.size, 4, none⟩ = some (.int .u64 hk)) := ⟨cell_of (H.quiet C0).md 2, cell_of o0 4⟩
 obtain ⟨wd, hwd⟩ : ∃ wd, wd = w0.drew := ⟨_, rfl⟩
 have Cd : Chg (fun _ => False) W wd := by rw [hwd]; exact C0.drew
 have Md := H.quiet Cd
 have hl0 := HeldAt.look Md.held hk64
 rw [hh] at hl0
 rw [hwd] at hl0
 have od0 : wd.heap[W.heap.size]? = some (.cells #[.int .u8 8, .int .u64 k, .int .u64 v, .int .u64 od, .int .u64 hk, .bool r5, .int .i64 r6, .int .i64 r7, .slice kp kn kc, .int .u64 lo, .int .u64 hi] 35 (0, 0)) := by rw [hwd]; exact o0
 have ad : wd.heap[W.heap.size + 1]? = some (.cells #[.int .i64 0, .bool false, .int .u64 0, .bool false, .int .u64 0, .slice none 0 0, .int .u64 0] 39 (0, 0)) := by rw [hwd]; exact a0
 have k0 : wd.cell? ⟨W.heap.size, 0, none⟩ = some (.int .u8 8) := cell_of od0 0
 have k8 : wd.cell? ⟨W.heap.size, 8, none⟩ = some (.slice kp kn kc) := cell_of od0 8
 have k9 : wd.cell? ⟨W.heap.size, 9, none⟩ = some (.int .u64 lo) := cell_of od0 9
 have k10 : wd.cell? ⟨W.heap.size, 10, none⟩ = some (.int .u64 hi) := cell_of od0 10
 have HSZ : Hid (wd.heap.size = W.heap.size + 2) := by rw [hwd, hw0]; show _ = _; simp
 have HF := keepH (c_between (Md.pic hk b hh) hn hlo hhi)
 have HAD := keepH ad
 have HCD := keepH Cd
 clear H C0 Cd Md o0 od0 a0 ad
 go_enter Tryz.func84, Tryz.ntmps84
 go_upto_region 1 with fail
 rw [← hw0]
 clear hw0
 go_region_held3 (fun w' => w'.cell? ⟨m, 2, none⟩ = some (.map (some hd)) ∧ w'.cell? ⟨W.heap.size, 4, none⟩ = some (.int .u64 hk)) (first | exact HS0.out) (fail)
 all_goals (
  rw [← hwd]
  clear hwd
  go_wp2_with fail
  refine HF.out.mono ?_
  rintro e w1 ⟨⟨v1, l, rfl, hL1, hrow, hL2⟩, C1⟩
  have hL := And.intro hL1 hL2
  obtain ⟨p, c, rfl, hP, hB⟩ := hrow.oslice
  have ad1 := (C1.block _ (lt_of HAD.out) (fun x => x)).trans HAD.out
  obtain ⟨w9, hw9⟩ : ∃ w9, w9 = w1.setCells (W.heap.size + 1) 0 (#[.int .i64 0, .bool false, .int .u64 0, .bool false, .int .u64 0, .slice p l.length c, .int .u64 0] : Array Value).toList := ⟨_, rfl⟩
  have A9 : w9.heap[W.heap.size + 1]? = some (.cells #[.int .i64 0, .bool false, .int .u64 0, .bool false, .int .u64 0, .slice p l.length c, .int .u64 0] 39 (0, 0)) := by
   rw [hw9]
   exact setCells_of 39 (W.heap.size + 1) (#[.int .i64 0, .bool false, .int .u64 0, .bool false, .int .u64 0, .slice p l.length c, .int .u64 0] : Array Value).toList [] (#[.int .i64 0, .bool false, .int .u64 0, .bool false, .int .u64 0, .slice none 0 0, .int .u64 0] : Array Value).toList [] w1 ad1 rfl
  have K9 : Chg (fun i => i = W.heap.size + 1) w1 w9 := by rw [hw9]; exact setCells_chg (W.heap.size + 1) _ 0 _
  have HC9 : Hid (Chg (fun _ => False) W w9) := (HCD.out.trans C1 (H := fun _ => False) (fun _ _ x => x) (fun _ _ x => x)).trans K9 (fun _ _ x => x) (fun i hi e => by omega)
  have HTH : Hid (w1.there (W.heap.size + 1) 0 7) := fun j hj => ⟨by rw [cell_of ad1]; match j, hj with | 0, _ => rfl | 1, _ => rfl | 2, _ => rfl | 3, _ => rfl | 4, _ => rfl | 5, _ => rfl | 6, _ => rfl, free_of ad1 _⟩
  have HW := keepH hw9
  have q0 : w9.cell? ⟨W.heap.size + 1, 0, none⟩ = some (.int .i64 0) := cell_of A9 0
  have q1 : w9.cell? ⟨W.heap.size + 1, 1, none⟩ = some (.bool false) := cell_of A9 1
  have q2 : w9.cell? ⟨W.heap.size + 1, 2, none⟩ = some (.int .u64 0) := cell_of A9 2
  have q3 : w9.cell? ⟨W.heap.size + 1, 3, none⟩ = some (.bool false) := cell_of A9 3
  have q4 : w9.cell? ⟨W.heap.size + 1, 4, none⟩ = some (.int .u64 0) := cell_of A9 4
  have q5 : w9.cell? ⟨W.heap.size + 1, 5, none⟩ = some (.slice p l.length c) := cell_of A9 5
  have q6 : w9.cell? ⟨W.heap.size + 1, 6, none⟩ = some (.int .u64 0) := cell_of A9 6
  clear hw9 A9
  have HP9 : Hid ((Lists (g b) lo hi l ∧ l.length ≤ n) ∧ OPairs w9 p c l ∧ ∀ bk off, p = some ⟨bk, off, none⟩ → W.heap.size ≤ bk) := by
   refine ⟨hL, hP.chgF K9 (fun bk off e => ?_), fun bk off e => ?_⟩
   ·have z := hB bk off e
    have y := HSZ.out
    omega
   ·have z := hB bk off e
    have y := HSZ.out
    omega
  clear hP hB hL hrow C1 K9 ad1
  go_wp2_with (refine wpList_store_mid rfl 39 (.tmp 4) (.tmp 37) rfl (W.heap.size + 1) 0 #[.int .i64 0, .bool false, .int .u64 0, .bool false, .int .u64 0, .slice p l.length c, .int .u64 0] rfl rfl HTH.out (by kernel_rfl) (by kernel_rfl) ?_; rw [← HW.out]; clear HW HTH)
  (try go_wp2_with fail)
  refine bodyPost_ret (v := .agg #[.int .i64 0, .bool false, .int .u64 0, .bool false, .int .u64 0, .slice p l.length c, .int .u64 0]) (by simp [results, Tryz.results84, go_sem, q0, q1, q2, q3, q4, q5, q6]) rfl ⟨⟨p, c, l, rfl, HP9.out.1, HP9.out.2.1, HP9.out.2.2⟩, HC9.out⟩)
set_option maxRecDepth 100000 in
theorem asks_7 {k v od hk lo hi kn kc : Nat} {r5 : Bool} {r6 r7 : Int} {kp : Option Addr}  {W : World} {m nw hd mu : Nat} {f h : Nat → Option Nat} {g : Nat → Nat → Option Nat} {n : Nat} (H : MoAt W m nw hd mu f h g n) (hk64 : hk < 18446744073709551616) {b : Nat} (hh : h hk = some b) (hn : n ≤ 8796093022000) {ks : List Nat} (hks : KeysAt W kp ks) (hkn : kn = ks.length) (hkl : ks.length ≤ 8796093022000) :
    Calls Tryz.prog 84 #[.pointer (some ⟨m, 0, none⟩), .agg #[.int .u8 7, .int .u64 k, .int .u64 v, .int .u64 od, .int .u64 hk, .bool r5, .int .i64 r6, .int .i64 r7, .slice kp kn kc, .int .u64 lo, .int .u64 hi]] W fun e W' => (∃ p c l, e = .returned (.agg #[.int .i64 0, .bool false, .int .u64 0, .bool false, .int .u64 0, .slice p l.length c, .int .u64 0]) ∧ (l = pairsOf (g b) ks) ∧ OPairs W' p c l ∧ (∀ bk off, p = some ⟨bk, off, none⟩ → W.heap.size ≤ bk)) ∧ Chg (fun _ => False) W W' := by
 subst hkn
 obtain ⟨w0, hw0⟩ : ∃ w0, w0 = (W.alloc (.cells #[.int .u8 7, .int .u64 k, .int .u64 v, .int .u64 od, .int .u64 hk, .bool r5, .int .i64 r6, .int .i64 r7, .slice kp ks.length kc, .int .u64 lo, .int .u64 hi] 35)).alloc (.cells #[.int .i64 0, .bool false, .int .u64 0, .bool false, .int .u64 0, .slice none 0 0, .int .u64 0] 39) := ⟨_, rfl⟩
 have C0 : Chg (fun _ => False) W w0 := by rw [hw0]; exact ((Chg.refl _ _).alloc _).alloc _
 have o0 : w0.heap[W.heap.size]? = some (.cells #[.int .u8 7, .int .u64 k, .int .u64 v, .int .u64 od, .int .u64 hk, .bool r5, .int .i64 r6, .int .i64 r7, .slice kp ks.length kc, .int .u64 lo, .int .u64 hi] 35 (0, 0)) := by rw [hw0]; exact alloc_of (heap_alloc_new _ _) _
 have a0 : w0.heap[W.heap.size + 1]? = some (.cells #[.int .i64 0, .bool false, .int .u64 0, .bool false, .int .u64 0, .slice none 0 0, .int .u64 0] 39 (0, 0)) := by
  rw [hw0]
  exact al2
 have HS0 : Hid (w0.cell? ⟨m, 2, none⟩ = some (.map (some hd)) ∧ w0.cell? ⟨W.heap.size, 4, none⟩ = some (.int .u64 hk)) := ⟨cell_of (H.quiet C0).md 2, cell_of o0 4⟩
 obtain ⟨wd, hwd⟩ : ∃ wd, wd = w0.drew := ⟨_, rfl⟩
 have Cd : Chg (fun _ => False) W wd := by rw [hwd]; exact C0.drew
 have Md := H.quiet Cd
 have hl0 := HeldAt.look Md.held hk64
 rw [hh] at hl0
 rw [hwd] at hl0
 have od0 : wd.heap[W.heap.size]? = some (.cells #[.int .u8 7, .int .u64 k, .int .u64 v, .int .u64 od, .int .u64 hk, .bool r5, .int .i64 r6, .int .i64 r7, .slice kp ks.length kc, .int .u64 lo, .int .u64 hi] 35 (0, 0)) := by rw [hwd]; exact o0
 have ad : wd.heap[W.heap.size + 1]? = some (.cells #[.int .i64 0, .bool false, .int .u64 0, .bool false, .int .u64 0, .slice none 0 0, .int .u64 0] 39 (0, 0)) := by rw [hwd]; exact a0
 have k0 : wd.cell? ⟨W.heap.size, 0, none⟩ = some (.int .u8 7) := cell_of od0 0
 have k8 : wd.cell? ⟨W.heap.size, 8, none⟩ = some (.slice kp ks.length kc) := cell_of od0 8
 have k9 : wd.cell? ⟨W.heap.size, 9, none⟩ = some (.int .u64 lo) := cell_of od0 9
 have k10 : wd.cell? ⟨W.heap.size, 10, none⟩ = some (.int .u64 hi) := cell_of od0 10
 have HSZ : Hid (wd.heap.size = W.heap.size + 2) := by rw [hwd, hw0]; show _ = _; simp
 have HF := keepH (c_of (Md.pic hk b hh) (hks.chg Cd (fun _ _ _ x => x)) hkl kc)
 have HAD := keepH ad
 have HCD := keepH Cd
 clear H C0 Cd Md o0 od0 a0 ad
 go_enter Tryz.func84, Tryz.ntmps84
 go_upto_region 1 with fail
 rw [← hw0]
 clear hw0
 go_region_held3 (fun w' => w'.cell? ⟨m, 2, none⟩ = some (.map (some hd)) ∧ w'.cell? ⟨W.heap.size, 4, none⟩ = some (.int .u64 hk)) (first | exact HS0.out) (fail)
 all_goals (
  rw [← hwd]
  clear hwd
  go_wp2_with fail
  refine HF.out.mono ?_
  rintro e w1 ⟨⟨v1, rfl, hrow⟩, C1⟩
  obtain ⟨l, hL⟩ : ∃ l, l = pairsOf (g b) ks := ⟨_, rfl⟩
  rw [← hL] at hrow
  obtain ⟨p, c, rfl, hP, hB⟩ := hrow.oslice
  have ad1 := (C1.block _ (lt_of HAD.out) (fun x => x)).trans HAD.out
  obtain ⟨w9, hw9⟩ : ∃ w9, w9 = w1.setCells (W.heap.size + 1) 0 (#[.int .i64 0, .bool false, .int .u64 0, .bool false, .int .u64 0, .slice p l.length c, .int .u64 0] : Array Value).toList := ⟨_, rfl⟩
  have A9 : w9.heap[W.heap.size + 1]? = some (.cells #[.int .i64 0, .bool false, .int .u64 0, .bool false, .int .u64 0, .slice p l.length c, .int .u64 0] 39 (0, 0)) := by
   rw [hw9]
   exact setCells_of 39 (W.heap.size + 1) (#[.int .i64 0, .bool false, .int .u64 0, .bool false, .int .u64 0, .slice p l.length c, .int .u64 0] : Array Value).toList [] (#[.int .i64 0, .bool false, .int .u64 0, .bool false, .int .u64 0, .slice none 0 0, .int .u64 0] : Array Value).toList [] w1 ad1 rfl
  have K9 : Chg (fun i => i = W.heap.size + 1) w1 w9 := by rw [hw9]; exact setCells_chg (W.heap.size + 1) _ 0 _
  have HC9 : Hid (Chg (fun _ => False) W w9) := (HCD.out.trans C1 (H := fun _ => False) (fun _ _ x => x) (fun _ _ x => x)).trans K9 (fun _ _ x => x) (fun i hi e => by omega)
  have HTH : Hid (w1.there (W.heap.size + 1) 0 7) := fun j hj => ⟨by rw [cell_of ad1]; match j, hj with | 0, _ => rfl | 1, _ => rfl | 2, _ => rfl | 3, _ => rfl | 4, _ => rfl | 5, _ => rfl | 6, _ => rfl, free_of ad1 _⟩
  have HW := keepH hw9
  have q0 : w9.cell? ⟨W.heap.size + 1, 0, none⟩ = some (.int .i64 0) := cell_of A9 0
  have q1 : w9.cell? ⟨W.heap.size + 1, 1, none⟩ = some (.bool false) := cell_of A9 1
  have q2 : w9.cell? ⟨W.heap.size + 1, 2, none⟩ = some (.int .u64 0) := cell_of A9 2
  have q3 : w9.cell? ⟨W.heap.size + 1, 3, none⟩ = some (.bool false) := cell_of A9 3
  have q4 : w9.cell? ⟨W.heap.size + 1, 4, none⟩ = some (.int .u64 0) := cell_of A9 4
  have q5 : w9.cell? ⟨W.heap.size + 1, 5, none⟩ = some (.slice p l.length c) := cell_of A9 5
  have q6 : w9.cell? ⟨W.heap.size + 1, 6, none⟩ = some (.int .u64 0) := cell_of A9 6
  clear hw9 A9
  have HP9 : Hid ((l = pairsOf (g b) ks) ∧ OPairs w9 p c l ∧ ∀ bk off, p = some ⟨bk, off, none⟩ → W.heap.size ≤ bk) := by
   refine ⟨hL, hP.chgF K9 (fun bk off e => ?_), fun bk off e => ?_⟩
   ·have z := hB bk off e
    have y := HSZ.out
    omega
   ·have z := hB bk off e
    have y := HSZ.out
    omega
  clear hP hB hL hrow C1 K9 ad1
  go_wp2_with (refine wpList_store_mid rfl 39 (.tmp 4) (.tmp 28) rfl (W.heap.size + 1) 0 #[.int .i64 0, .bool false, .int .u64 0, .bool false, .int .u64 0, .slice p l.length c, .int .u64 0] rfl rfl HTH.out (by kernel_rfl) (by kernel_rfl) ?_; rw [← HW.out]; clear HW HTH)
  (try go_wp2_with fail)
  refine bodyPost_ret (v := .agg #[.int .i64 0, .bool false, .int .u64 0, .bool false, .int .u64 0, .slice p l.length c, .int .u64 0]) (by simp [results, Tryz.results84, go_sem, q0, q1, q2, q3, q4, q5, q6]) rfl ⟨⟨p, c, l, rfl, HP9.out.1, HP9.out.2.1, HP9.out.2.2⟩, HC9.out⟩)
set_option maxRecDepth 100000 in
theorem asks_9 {k v od hk lo hi kn kc : Nat} {r5 : Bool} {r6 r7 : Int} {kp : Option Addr} {kd : Int} {W : World} {m nw hd mu : Nat} {f h : Nat → Option Nat} {g : Nat → Nat → Option Nat} {n : Nat} (H : MoAt W m nw hd mu f h g n) (hk64 : hk < 18446744073709551616) {b : Nat} (hh : h hk = some b) (hn : n ≤ 8796093022000) (hlo : lo < 18446744073709551616) (hhi : hi < 18446744073709551616) (n7 : ¬ kd = 7) (n8 : ¬ kd = 8) :
    Calls Tryz.prog 84 #[.pointer (some ⟨m, 0, none⟩), .agg #[.int .u8 kd, .int .u64 k, .int .u64 v, .int .u64 od, .int .u64 hk, .bool r5, .int .i64 r6, .int .i64 r7, .slice kp kn kc, .int .u64 lo, .int .u64 hi]] W fun e W' => (∃ l, e = .returned (.agg #[.int .i64 0, .bool false, .int .u64 0, .bool false, .int .u64 0, .slice none 0 0, .int .u64 l.length]) ∧ Lists (g b) lo hi l ∧ l.length ≤ n) ∧ Chg (fun _ => False) W W' := by
 obtain ⟨w0, hw0⟩ : ∃ w0, w0 = (W.alloc (.cells #[.int .u8 kd, .int .u64 k, .int .u64 v, .int .u64 od, .int .u64 hk, .bool r5, .int .i64 r6, .int .i64 r7, .slice kp kn kc, .int .u64 lo, .int .u64 hi] 35)).alloc (.cells #[.int .i64 0, .bool false, .int .u64 0, .bool false, .int .u64 0, .slice none 0 0, .int .u64 0] 39) := ⟨_, rfl⟩
 have C0 : Chg (fun _ => False) W w0 := by rw [hw0]; exact ((Chg.refl _ _).alloc _).alloc _
 have o0 : w0.heap[W.heap.size]? = some (.cells #[.int .u8 kd, .int .u64 k, .int .u64 v, .int .u64 od, .int .u64 hk, .bool r5, .int .i64 r6, .int .i64 r7, .slice kp kn kc, .int .u64 lo, .int .u64 hi] 35 (0, 0)) := by rw [hw0]; exact alloc_of (heap_alloc_new _ _) _
 have a0 : w0.heap[W.heap.size + 1]? = some (.cells #[.int .i64 0, .bool false, .int .u64 0, .bool false, .int .u64 0, .slice none 0 0, .int .u64 0] 39 (0, 0)) := by
  rw [hw0]
  exact al2
 have HS0 : Hid (w0.cell? ⟨m, 2, none⟩ = some (.map (some hd)) ∧ w0.cell? ⟨W.heap.size, 4, none⟩ = some (.int .u64 hk)) := ⟨cell_of (H.quiet C0).md 2, cell_of o0 4⟩
 obtain ⟨wd, hwd⟩ : ∃ wd, wd = w0.drew := ⟨_, rfl⟩
 have Cd : Chg (fun _ => False) W wd := by rw [hwd]; exact C0.drew
 have Md := H.quiet Cd
 have hl0 := HeldAt.look Md.held hk64
 rw [hh] at hl0
 rw [hwd] at hl0
 have od0 : wd.heap[W.heap.size]? = some (.cells #[.int .u8 kd, .int .u64 k, .int .u64 v, .int .u64 od, .int .u64 hk, .bool r5, .int .i64 r6, .int .i64 r7, .slice kp kn kc, .int .u64 lo, .int .u64 hi] 35 (0, 0)) := by rw [hwd]; exact o0
 have ad : wd.heap[W.heap.size + 1]? = some (.cells #[.int .i64 0, .bool false, .int .u64 0, .bool false, .int .u64 0, .slice none 0 0, .int .u64 0] 39 (0, 0)) := by rw [hwd]; exact a0
 have k0 : wd.cell? ⟨W.heap.size, 0, none⟩ = some (.int .u8 kd) := cell_of od0 0
 have k8 : wd.cell? ⟨W.heap.size, 8, none⟩ = some (.slice kp kn kc) := cell_of od0 8
 have k9 : wd.cell? ⟨W.heap.size, 9, none⟩ = some (.int .u64 lo) := cell_of od0 9
 have k10 : wd.cell? ⟨W.heap.size, 10, none⟩ = some (.int .u64 hi) := cell_of od0 10
 have HSZ : Hid (wd.heap.size = W.heap.size + 2) := by rw [hwd, hw0]; show _ = _; simp
 have z7 : (kd == 7) = false := by simpa using n7
 have z8 : (kd == 8) = false := by simpa using n8
 have HF := keepH (c_count (Md.pic hk b hh) hn hlo hhi)
 have HAD := keepH ad
 have HCD := keepH Cd
 clear H C0 Cd Md o0 od0 a0 ad
 go_enter Tryz.func84, Tryz.ntmps84
 go_upto_region 1 with fail
 rw [← hw0]
 clear hw0
 go_region_held3 (fun w' => w'.cell? ⟨m, 2, none⟩ = some (.map (some hd)) ∧ w'.cell? ⟨W.heap.size, 4, none⟩ = some (.int .u64 hk)) (first | exact HS0.out) (fail)
 all_goals (
  rw [← hwd]
  clear hwd
  go_wp2_with fail
  refine HF.out.mono ?_
  rintro e w1 ⟨⟨l, hL, rfl, hll⟩, C1⟩
  have ad1 := (C1.block _ (lt_of HAD.out) (fun x => x)).trans HAD.out
  obtain ⟨w9, hw9⟩ : ∃ w9, w9 = w1.setCells (W.heap.size + 1) 0 (#[.int .i64 0, .bool false, .int .u64 0, .bool false, .int .u64 0, .slice none 0 0, .int .u64 l.length] : Array Value).toList := ⟨_, rfl⟩
  have A9 : w9.heap[W.heap.size + 1]? = some (.cells #[.int .i64 0, .bool false, .int .u64 0, .bool false, .int .u64 0, .slice none 0 0, .int .u64 l.length] 39 (0, 0)) := by
   rw [hw9]
   exact setCells_of 39 (W.heap.size + 1) (#[.int .i64 0, .bool false, .int .u64 0, .bool false, .int .u64 0, .slice none 0 0, .int .u64 l.length] : Array Value).toList [] (#[.int .i64 0, .bool false, .int .u64 0, .bool false, .int .u64 0, .slice none 0 0, .int .u64 0] : Array Value).toList [] w1 ad1 rfl
  have K9 : Chg (fun i => i = W.heap.size + 1) w1 w9 := by rw [hw9]; exact setCells_chg (W.heap.size + 1) _ 0 _
  have HC9 : Hid (Chg (fun _ => False) W w9) := (HCD.out.trans C1 (H := fun _ => False) (fun _ _ x => x) (fun _ _ x => x)).trans K9 (fun _ _ x => x) (fun i hi e => by omega)
  have HTH : Hid (w1.there (W.heap.size + 1) 0 7) := fun j hj => ⟨by rw [cell_of ad1]; match j, hj with | 0, _ => rfl | 1, _ => rfl | 2, _ => rfl | 3, _ => rfl | 4, _ => rfl | 5, _ => rfl | 6, _ => rfl, free_of ad1 _⟩
  have HW := keepH hw9
  have q0 : w9.cell? ⟨W.heap.size + 1, 0, none⟩ = some (.int .i64 0) := cell_of A9 0
  have q1 : w9.cell? ⟨W.heap.size + 1, 1, none⟩ = some (.bool false) := cell_of A9 1
  have q2 : w9.cell? ⟨W.heap.size + 1, 2, none⟩ = some (.int .u64 0) := cell_of A9 2
  have q3 : w9.cell? ⟨W.heap.size + 1, 3, none⟩ = some (.bool false) := cell_of A9 3
  have q4 : w9.cell? ⟨W.heap.size + 1, 4, none⟩ = some (.int .u64 0) := cell_of A9 4
  have q5 : w9.cell? ⟨W.heap.size + 1, 5, none⟩ = some (.slice none 0 0) := cell_of A9 5
  have q6 : w9.cell? ⟨W.heap.size + 1, 6, none⟩ = some (.int .u64 l.length) := cell_of A9 6
  clear hw9 A9
  have HL := keepH (And.intro hL hll)
  clear hL hll C1 K9 ad1
  go_wp2_with (refine wpList_store_mid rfl 39 (.tmp 4) (.tmp 44) rfl (W.heap.size + 1) 0 #[.int .i64 0, .bool false, .int .u64 0, .bool false, .int .u64 0, .slice none 0 0, .int .u64 l.length] rfl rfl HTH.out (by kernel_rfl) (by kernel_rfl) ?_; rw [← HW.out]; clear HW HTH)
  (try go_wp2_with fail)
  refine bodyPost_ret (v := .agg #[.int .i64 0, .bool false, .int .u64 0, .bool false, .int .u64 0, .slice none 0 0, .int .u64 l.length]) (by simp [results, Tryz.results84, go_sem, q0, q1, q2, q3, q4, q5, q6]) rfl ⟨⟨l, rfl, HL.out.1, HL.out.2⟩, HC9.out⟩)
end Go.Proofs.YtahgaghokpicgaaGreat
