/- Numbers as texts, by the program; a text cut at a line's end, at blanks, and joined. -/
import Derived.Test.YtjodechhnobkhaaGreatDoorRpd
import Derived.Test.YtjodechhnobkhaaGreatDoorRpe
import Derived.Test.YtjodechhnobkhaaGreatDoorRpf
namespace Go.Proofs.YtjodechhnobkhaaGreatDoor
open Go.RowKit Go.Shelf
set_option linter.unusedVariables false

structure Tb (w : World) : Prop where
  tab : Lib.TabIs Tryz.prog w "internal/strconv.uint64pow10" .u64 Lib.pow10Tab
theorem Tb.on {w w' : World} (h : Tb w) (hb : Below w.heap.size w w') : Tb w' := ⟨var_below h.tab hb⟩
theorem itoa_any (n : Int) (h0 : -9223372036854775808 ≤ n) (h1 : n < 9223372036854775808) (w : World) (T : Tb w) :
    Calls Tryz.prog 67 #[.int .i64 n] w fun e w' => e = .returned (.string (mkS (Lib.itoa n))) ∧ Below w.heap.size w w' := by
  refine (Any.strconv_Itoa Tryz.lays171 n h0 (by omega) w T.tab).mono ?_
  rintro e w' ⟨rfl, k, os, rfl⟩
  exact ⟨rfl, grow_below _ _ _⟩
set_option maxRecDepth 100000 in
theorem dec_any (u : Nat) (h : isU u) (w : World) (T : Tb w) :
    Calls Tryz.prog 68 #[.int .u64 (u : Int)] w fun e w' => e = .returned (.string (mkS (Lib.decDigits u))) ∧ Below w.heap.size w w' := by
  have hf := fmtU u h w T.tab
  go_enter Tryz.func68, Tryz.ntmps68
  go_wp2_with fail
  refine hf.mono ?_
  rintro e w1 ⟨rfl, hb⟩
  go_wp2
  go_ret
  exact ⟨rfl, hb⟩
/-- natural: a number, and whether the text is the one in which it is written -/
def natV (f : List UInt8) (v : Value) : Prop := (∃ u : Nat, natP f = some u ∧ v = .tuple #[.int .u64 (u : Int), .bool true]) ∨ (natP f = none ∧ ∃ u : Nat, v = .tuple #[.int .u64 (u : Int), .bool false])
def intV (f : List UInt8) (v : Value) : Prop := (∃ u : Int, intP f = some u ∧ v = .tuple #[.int .i64 u, .bool true]) ∨ (intP f = none ∧ ∃ u : Int, v = .tuple #[.int .i64 u, .bool false])
theorem bXj : Builder.Extra Tryz.prog Tryz.lays156_ren where
  sizeBuilder := by kernel_rfl
  liesBuilder := by kernel_rfl
  t5 := Tryz.underlying5
  a5 := Tryz.isAgg5
  z5 := Tryz.sizeOf5
  v5 := Tryz.zeroValue5
  infoByte := by kernel_rfl
  cellsByte := by kernel_rfl
  sizeByte := by kernel_rfl
  neB5 := by decide
theorem join_any (bk c : Nat) (fs : List (List UInt8)) (w : World) (hcells : ∀ (j : Nat) f, fs[j]? = some f → w.cell? ⟨bk, j, none⟩ = some (.string (mkS f))) (hbk : bk < w.heap.size) (hN : fs.length ≤ 140737488355328) (hcap : fs.length ≤ c) (hlen : (Lib.join fs [32]).length ≤ 140737488355328) :
    Calls Tryz.prog 70 #[.slice (some ⟨bk, 0, none⟩) fs.length c, .string ⟨#[32]⟩] w fun e w' => e = .returned (.string (mkS (Lib.join fs [32]))) ∧ Below w.heap.size w w' := by
  have e1 : (fs.map mkS).map (·.data.toList) = fs := by rw [List.map_map]; simp [Function.comp_def]
  have h := Any.strings_Join Tryz.lays156 bXj bk 0 c (fs.map mkS) ⟨#[32]⟩ w (fun j x hx => by
    rw [List.getElem?_map] at hx
    obtain ⟨f, hf, rfl⟩ := Option.map_eq_some_iff.mp hx
    rw [Nat.zero_add]
    exact hcells j f hf) hbk (by simpa using hN) (by simpa using hcap) (by rw [e1]; exact hlen)
  rw [e1, List.length_map] at h
  exact h

end Go.Proofs.YtjodechhnobkhaaGreatDoor
