/- Diff: what is other in the second. -/
import Derived.Test.YtbmfjcdafjknaaaEf
import Derived.Test.YtbmfjcdafjknaaaEg
namespace Go.Proofs.Ytbmfjcdafjknaaa
open Go.RowKit Go.Shelf
set_option linter.unusedVariables false
attribute [local go_sem] Oper.semAt_some

def chRow (l : List Ch) : List Value := l.flatMap Ch.cells
theorem chRow_len (l : List Ch) : (chRow l).length = l.length * 5 := by
  induction l with
  | nil => rfl
  | cons x l ih => simp [chRow, Ch.cells] at ih ⊢; omega
theorem chRow_add (l : List Ch) (c : Ch) : chRow (l ++ [c]) = chRow l ++ c.cells := by simp [chRow]
def smallC (l : List Ch) : Prop := ∀ c ∈ l, c.k < 18446744073709551616 ∧ c.old < 18446744073709551616 ∧ c.new < 18446744073709551616
theorem infoCh : (Try.prog.info? 69).map (fun i => (i.zero, i.size, i.bytes)) = some (some (.agg #[.int .u64 0, .bool false, .bool false, .int .u64 0, .int .u64 0]), 5, 32) := by kernel_rfl
def diffX (m : List (Option (Nat × Nat) × Option (Nat × Nat))) : List Ch := (m.map chOf).filter Ch.right
def diffL (a b : List (Nat × Nat)) : List Ch := diffX (mrg (fun y : Nat × Nat => y.1) a b)
theorem diffX_add (m : List (Option (Nat × Nat) × Option (Nat × Nat))) (x : Option (Nat × Nat) × Option (Nat × Nat)) : diffX (m ++ [x]) = if (chOf x).right then diffX m ++ [chOf x] else diffX m := by
  unfold diffX
  rw [List.map_append, List.filter_append]
  by_cases h : (chOf x).right = true
  · simp [h]
  · simp [h]
theorem diffX_len (m : List (Option (Nat × Nat) × Option (Nat × Nat))) : (diffX m).length ≤ m.length := by
  unfold diffX
  exact Nat.le_trans (List.length_filter_le _ _) (by simp)
theorem mk_sbs (pa pb : Option Addr) (na nb ca cb : Nat) (w : World) : Calls Try.prog 44 #[.slice pa na ca, .slice pb nb cb, .func (.func 45) #[] #[], .func (.func 45) #[] #[]] w fun e w' =>
    e = .returned (.func (.func 65) #[] #[.pointer (some ⟨w.heap.size, 0, none⟩), .pointer (some ⟨w.heap.size + 1, 0, none⟩), .pointer (some ⟨w.heap.size + 1 + 1, 0, none⟩), .pointer (some ⟨w.heap.size + 1 + 1 + 1, 0, none⟩)]) ∧
    w' = (((w.alloc (.cells #[.slice pa na ca] 22)).alloc (.cells #[.slice pb nb cb] 22)).alloc (.cells #[.func (.func 45) #[] #[]] 86)).alloc (.cells #[.func (.func 45) #[] #[]] 86) := by
  go_enter Try.func44, Try.ntmps44
  go_wp2_with fail
  go_ret
  exact ⟨rfl, rfl⟩
theorem sbs_stops (n B1 B2 B3 B4 bka offa bkb offb ca cb : Nat) (pa pb : Option Addr) (la lb : List (Nat × Nat)) (F : Nat → Prop) (hn : 3 ≤ n) (w : World)
    (h1 : w.cell? ⟨B1, 0, none⟩ = some (.slice pa la.length ca)) (h2 : w.cell? ⟨B2, 0, none⟩ = some (.slice pb lb.length cb))
    (h3 : w.cell? ⟨B3, 0, none⟩ = some (.func (.func 45) #[] #[])) (h4 : w.cell? ⟨B4, 0, none⟩ = some (.func (.func 45) #[] #[])) (f3 : ¬ F B3) (f4 : ¬ F B4)
    (hpa : 0 < la.length → pa = some ⟨bka, offa, none⟩) (hpb : 0 < lb.length → pb = some ⟨bkb, offb, none⟩) (hca : la.length ≤ ca ∧ ca ≤ 9223372036854775807) (hcb : lb.length ≤ cb ∧ cb ≤ 9223372036854775807)
    (hA : ∀ (i k x : Nat), la[i]? = some (k, x) → ¬ F bka ∧ w.cell? ⟨bka, offa + i * 2, none⟩ = some (.int .u64 (k : Int)) ∧ w.cell? ⟨bka, offa + i * 2 + 1, none⟩ = some (.int .u64 (x : Int)))
    (hB : ∀ (i k x : Nat), lb[i]? = some (k, x) → ¬ F bkb ∧ w.cell? ⟨bkb, offb + i * 2, none⟩ = some (.int .u64 (k : Int)) ∧ w.cell? ⟨bkb, offb + i * 2 + 1, none⟩ = some (.int .u64 (x : Int))) :
    SeqStopsK Fence.wide n Try.prog 65 #[.pointer (some ⟨B1, 0, none⟩), .pointer (some ⟨B2, 0, none⟩), .pointer (some ⟨B3, 0, none⟩), .pointer (some ⟨B4, 0, none⟩)] (fun x : IxP la.length lb.length => #[ptP bka offa 2 x.1.1, ptP bkb offb 2 x.1.2]) (Chg F)
      (fun xs => xs.map (valX la lb) = mrg (fun y : Nat × Nat => y.1) la lb) (fun pre => ∃ r, pre.map (valX la lb) ++ r = mrg (fun y : Nat × Nat => y.1) la lb) (la.length + lb.length) w := fun l J Jx W hW hJ _ hY h0 => by
  have c := below_chgE hW
  exact sbs_in n l B1 B2 B3 B4 bka offa bkb offb ca cb pa pb la lb F J Jx hn hY W hJ (cell_chg c h1 (fun x => x)) (cell_chg c h2 (fun x => x)) (cell_chg c h3 (fun x => x)) (cell_chg c h4 (fun x => x)) f3 f4 hpa hpb hca hcb
    (fun i k x h => ⟨(hA i k x h).1, cell_chg c (hA i k x h).2.1 (fun x => x), cell_chg c (hA i k x h).2.2 (fun x => x)⟩) (fun i k x h => ⟨(hB i k x h).1, cell_chg c (hB i k x h).2.1 (fun x => x), cell_chg c (hB i k x h).2.2 (fun x => x)⟩) h0
/-- What became of a key that comes. -/
theorem btw_x {bka offa bkb offb : Nat} {la lb : List (Nat × Nat)} (x : IxP la.length lb.length) (w : World)
    (hA : ∀ (i k y : Nat), la[i]? = some (k, y) → w.cell? ⟨bka, offa + i * 2, none⟩ = some (.int .u64 (k : Int)) ∧ w.cell? ⟨bka, offa + i * 2 + 1, none⟩ = some (.int .u64 (y : Int)))
    (hB : ∀ (i k y : Nat), lb[i]? = some (k, y) → w.cell? ⟨bkb, offb + i * 2, none⟩ = some (.int .u64 (k : Int)) ∧ w.cell? ⟨bkb, offb + i * 2 + 1, none⟩ = some (.int .u64 (y : Int))) :
    Calls Try.prog 46 #[ptP bka offa 2 x.1.1, ptP bkb offb 2 x.1.2] w fun e w' => e = .returned (Ch.val (chOf (valX la lb x))) ∧ Below w.heap.size w w' := by
  obtain ⟨⟨oi, oj⟩, hi, hj, hne⟩ := x
  cases oi with
  | none =>
    cases oj with
    | none => exact absurd rfl hne
    | some j =>
      have hlt := hj j rfl
      obtain ⟨⟨k, y⟩, he⟩ : ∃ z, lb[j]? = some z := ⟨lb[j], List.getElem?_eq_getElem hlt⟩
      obtain ⟨c0, c1⟩ := hB j k y he
      simpa [ptP, valX, chOf, he] using btw_right bkb (offb + j * 2) k y w c0 c1
  | some i =>
    have hlt := hi i rfl
    obtain ⟨⟨k, y⟩, he⟩ : ∃ z, la[i]? = some z := ⟨la[i], List.getElem?_eq_getElem hlt⟩
    obtain ⟨c0, c1⟩ := hA i k y he
    cases oj with
    | none => simpa [ptP, valX, chOf, he] using btw_left bka (offa + i * 2) k y w c0 c1
    | some j =>
      have hlt2 := hj j rfl
      obtain ⟨⟨k2, y2⟩, he2⟩ : ∃ z, lb[j]? = some z := ⟨lb[j], List.getElem?_eq_getElem hlt2⟩
      obtain ⟨d0, d1⟩ := hB j k2 y2 he2
      simpa [ptP, valX, chOf, he, he2] using btw_both bka (offa + i * 2) k y bkb (offb + j * 2) k2 y2 w c0 c1 d0 d1
end Go.Proofs.Ytbmfjcdafjknaaa
