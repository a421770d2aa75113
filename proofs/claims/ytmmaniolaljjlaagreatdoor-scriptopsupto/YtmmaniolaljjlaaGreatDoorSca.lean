/- The kinds' words, and which fields an operation of each kind has: what is pure; the vocabulary of the program. -/
import Derived.Test.YtmmaniolaljjlaaGreatDoorScg
import Derived.MapKept
import Derived.Maps.Keyed
namespace Go.Proofs.YtmmaniolaljjlaaGreatDoor
open Go.RowKit Go.Shelf
set_option linter.unusedVariables false

def opWs : List (List UInt8) := [[], [103, 101, 116], [112, 117, 116], [100, 101, 108, 101, 116, 101], [115, 119, 97, 112], [115, 110, 97, 112, 115, 104, 111, 116], [114, 101, 108, 101, 97, 115, 101], [109, 117, 108, 116, 105, 103, 101, 116], [114, 97, 110, 103, 101], [99, 111, 117, 110, 116], [99, 111, 108, 108, 101, 99, 116]]
def opW (k : Nat) : List UInt8 := opWs.getD k []
def hasK (k : Nat) : Bool := decide (1 ≤ k ∧ k ≤ 10)
def hndK (k : Nat) : Bool := decide (6 ≤ k ∧ k ≤ 9)
def kysK (k : Nat) : Bool := decide (k = 7)
def numK : Nat → List Nat
  | 1 => [1] | 2 => [1, 2] | 3 => [1] | 4 => [1, 3, 2] | 8 => [9, 10] | 9 => [9, 10] | _ => []
theorem wordsB : (opWs.map fun s => (mkS s)) = [⟨#[]⟩, ⟨#[103, 101, 116]⟩, ⟨#[112, 117, 116]⟩, ⟨#[100, 101, 108, 101, 116, 101]⟩, ⟨#[115, 119, 97, 112]⟩, ⟨#[115, 110, 97, 112, 115, 104, 111, 116]⟩, ⟨#[114, 101, 108, 101, 97, 115, 101]⟩, ⟨#[109, 117, 108, 116, 105, 103, 101, 116]⟩, ⟨#[114, 97, 110, 103, 101]⟩, ⟨#[99, 111, 117, 110, 116]⟩, ⟨#[99, 111, 108, 108, 101, 99, 116]⟩] := rfl
/-- the package-level table of words -/
def Wd (w : World) : Prop := w.var? Tryz.prog "shutter/script.words" = some (opWs.map fun s => Value.string (mkS s)).toArray
theorem Wd.on {w w' : World} (h : Wd w) (hb : Below w.heap.size w w') : Wd w' := var_below h hb
theorem gWd : Tryz.prog.globalNamed "shutter/script.words" = some 0 := by kernel_rfl
theorem Wd.cell {w : World} (h : Wd w) (k : Nat) (hk : k < 11) : w.cell? ⟨0, k, none⟩ = some (.string (mkS (opW k))) := by
  have := World.var?_cell gWd h k
  rw [this]
  have e : (opWs.map fun s => Value.string (mkS s)).toArray[k]? = some (.string (mkS (opW k))) := by
    have : opWs.length = 11 := rfl
    simp [opW, List.getD, show k < opWs.length by omega]
  exact e
set_option maxRecDepth 100000 in
theorem word_any (k : Nat) (hk : k < 256) (W : World) (h : Wd W) :
    Calls Tryz.prog 69 #[.int .u8 (k : Int)] W fun e W' => e = .returned (.string (mkS (opW k))) ∧ W' = W := by
  by_cases h11 : k < 11
  · have c0 := h.cell k h11
    have t1 : ¬ ((k : Int) ≥ 11) := by omega
    have t0 : (0 : Int) ≤ (k : Int) := by omega
    have t2 : (k : Int) < 11 := by omega
    obtain ⟨s, hs⟩ : ∃ s, s = mkS (opW k) := ⟨_, rfl⟩
    rw [← hs] at c0 ⊢
    clear hs h
    go_enter Tryz.func69, Tryz.ntmps69
    go_wp2_with fail
    go_ret
    exact ⟨by simp, rfl⟩
  · have t1 : ((k : Int) ≥ 11) := by omega
    have e : opW k = [] := by
      unfold opW
      rw [List.getD, List.getElem?_eq_none (by show 11 ≤ k; omega)]
      rfl
    rw [e]
    clear h e
    go_enter Tryz.func69, Tryz.ntmps69
    go_wp2_with fail
    go_ret
    exact ⟨by simp, rfl⟩
def fnK : Nat → Value
  | 1 => .func (.func 59) #[] #[] | 2 => .func (.func 61) #[] #[] | 3 => .func (.func 59) #[] #[] | 4 => .func (.func 62) #[] #[] | 5 => .func (.func 58) #[] #[] | 6 => .func (.func 63) #[] #[] | 7 => .func (.func 64) #[] #[] | 8 => .func (.func 60) #[] #[] | 9 => .func (.func 60) #[] #[] | 10 => .func (.func 58) #[] #[] | _ => .nilFunc
def vocN : Nat → Array MapEntry
  | 0 => #[]
  | n + 1 => (vocN n).push ⟨.string (mkS (opW (n + 1))), fnK (n + 1), n⟩
def IsVoc (W : World) (b : Nat) : Prop := W.heap[b]? = some (.map (vocN 10) 10)
theorem IsVoc.on {W X : World} {b : Nat} (h : IsVoc W b) (hb : Below W.heap.size W X) : IsVoc X b := (hb.block b (Array.getElem?_eq_some_iff.1 h).1).trans h
theorem run_find_s {w : World} {k : Value} {l : List MapEntry} {a : Option (Nat × Value)} (h : Instr.findNow .string k l 0 = some a) : (Instr.findKey 9 k l).run Tryz.prog w = .ok a w := MapKept.run_findKey Tryz.underlying9 h
theorem ck_s (k : ByteArray) (em : Bool) (w : World) : (Instr.checkKey em 10000 9 (.string k)).run Tryz.prog w = .ok () w := by kernel_rfl
theorem voc_put {w : World} {b n : Nat} (hb : w.heap[b]? = some (.map (vocN n) n)) (hf : Instr.findNow .string (.string (mkS (opW (n + 1)))) (vocN n).toList 0 = some none) :
    ∃ w', (Instr.mapUpdate 57 (.map (some b)) (.string (mkS (opW (n + 1)))) (fnK (n + 1))).run Tryz.prog w = .ok () w' ∧ w'.heap[b]? = some (.map (vocN (n + 1)) (n + 1)) ∧ (∀ B, B ≤ b → Below B w w') := by
  refine ⟨ChangeMaps.setBlock w b (.map (vocN (n + 1)) (n + 1)), ?_, ?_, fun B hB => ?_⟩
  · simp [Instr.mapUpdate, run_underlying Tryz.underlying57, MapKept.run_getObj_map hb, ck_s, run_find_s hf, MapKept.run_setObj_map _ hb, Result.andThen, ChangeMaps.setBlock, vocN]
  · show (w.heap.setIfInBounds b _)[b]? = some _
    rw [Array.getElem?_setIfInBounds_self_of_lt (Array.getElem?_eq_some_iff.1 hb).1]
  · exact ⟨rfl, rfl, rfl, by simp [ChangeMaps.setBlock], fun k hk => by
      show (w.heap.setIfInBounds b _)[k]? = w.heap[k]?
      rw [Array.getElem?_setIfInBounds_ne (by omega)]⟩
theorem voc_find : ∀ (n : Nat), n < 10 → Instr.findNow .string (.string (mkS (opW (n + 1)))) (vocN n).toList 0 = some none
  | 0, _ => rfl | 1, _ => rfl | 2, _ => rfl | 3, _ => rfl | 4, _ => rfl | 5, _ => rfl | 6, _ => rfl | 7, _ => rfl | 8, _ => rfl | 9, _ => rfl
  | n + 10, h => by omega
theorem voc_found : ∀ (n : Nat), n < 10 → Instr.findNow .string (.string (mkS (opW (n + 1)))) (vocN 10).toList 0 = some (some (n, fnK (n + 1)))
  | 0, _ => rfl | 1, _ => rfl | 2, _ => rfl | 3, _ => rfl | 4, _ => rfl | 5, _ => rfl | 6, _ => rfl | 7, _ => rfl | 8, _ => rfl | 9, _ => rfl
  | n + 10, h => by omega
theorem voc_none : Instr.findNow .string (.string (mkS [])) (vocN 10).toList 0 = some none := rfl
theorem voc_look {W : World} {b : Nat} (h : IsVoc W b) (k : Nat) : (Instr.lookup 57 (.map (some b)) (.string (mkS (opW k))) true).run Tryz.prog W = .ok (.tuple #[fnK k, .bool (hasK k)]) W := by
  have hz : (zeroValue 114).run Tryz.prog W = .ok .nilFunc W := by kernel_rfl
  by_cases hk : 1 ≤ k ∧ k ≤ 10
  · have hf : Instr.findNow .string (.string (mkS (opW k))) (vocN 10).toList 0 = some (some (k - 1, fnK k)) := by
      obtain ⟨n, rfl⟩ : ∃ n, k = n + 1 := ⟨k - 1, by omega⟩
      exact voc_found n (by omega)
    simp [Instr.lookup, run_underlying Tryz.underlying57, MapKept.run_getObj_map h, ck_s, run_find_s hf, Result.andThen, hasK, hk]
  · have e : opW k = [] := by
      rcases Nat.lt_or_ge k 1 with h0 | h0
      · obtain rfl : k = 0 := by omega
        rfl
      · unfold opW
        rw [List.getD, List.getElem?_eq_none (by show 11 ≤ k; omega)]
        rfl
    have ef : fnK k = .nilFunc := by
      unfold fnK
      split <;> first | rfl | (exfalso; omega)
    have hf : Instr.findNow .string (.string (mkS (opW k))) (vocN 10).toList 0 = some none := by rw [e]; exact voc_none
    simp [Instr.lookup, run_underlying Tryz.underlying57, MapKept.run_getObj_map h, ck_s, run_find_s hf, Result.andThen, hasK, hk, hz, ef]
end Go.Proofs.YtmmaniolaljjlaaGreatDoor
