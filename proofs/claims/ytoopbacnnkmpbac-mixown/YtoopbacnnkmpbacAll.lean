/- All the looks of a book that keeps lists of numbers alone. -/
import Derived.Laws.Tables
import Derived.Test.YtoopbacnnkmpbacTake
namespace Go.Proofs.Ytoopbacnnkmpbac
open Go.RowKit Go.Shelf

theorem nil_one : (bookCells (.slice none 0 0)).all (·.oneCell') = true := by simp [bookCells, Value.oneCell']
theorem below_setRow (W : World) (g : Nat) (cs : Array Value) : Below g W (W.setRow g cs) :=
  ⟨rfl, rfl, rfl, by simp [World.setRow], fun k hk => by simp [World.setRow, Array.getElem?_modify]; omega⟩

set_option maxRecDepth 100000 in
set_option maxHeartbeats 4000000 in
theorem aloneAll (Bk n : Nat) (g : Nat → Nat) (sv : Value) (W : World) (hn : n ≤ 100) (hn0 : 0 < n) (hk : Kept W Bk n g sv) :
    Calls Try.prog 14 #[.pointer (some ⟨Bk, 0, none⟩)] W fun e W' => e = .returned (.bool true) ∧ Below Bk W W' := by
  obtain ⟨go, co, K, M⟩ := hk.keeps hn0
  have hb := hk.blk
  have HB := keepH hb
  have HK := keepH K
  have HM := keepH M
  have hlt := hk.lt
  clear K M hk hb
  go_enter Try.func14, Try.ntmps14
  go_wp2_with fail
  refine (none_0 Bk _ ((book_cell HB.out 0).trans rfl)).mono ?_
  rintro e w' ⟨rfl, rfl⟩
  go_wp2_with fail
  refine (none_1 Bk _ ((book_cell HB.out 1).trans rfl)).mono ?_
  rintro e w' ⟨rfl, rfl⟩
  go_wp2_with fail
  refine (alone_ints Bk go co n g _ hn hn0 HK.out HM.out).mono ?_
  rintro e w1 ⟨rfl, l1⟩
  have HB1 : Hid (w1.heap[Bk]? = some (.cells (bookCells sv) 52 (0, 0))) := (l1.block Bk (by omega)).trans HB.out
  go_wp2_with fail
  refine (none_3 Bk _ ((book_cell HB1.out 3).trans rfl)).mono ?_
  rintro e w' ⟨rfl, rfl⟩
  go_wp2_with fail
  refine (none_4 Bk _ ((book_cell HB1.out 4).trans rfl)).mono ?_
  rintro e w' ⟨rfl, rfl⟩
  go_wp2_with fail
  refine (none_5 Bk _ ((book_cell HB1.out 5).trans rfl)).mono ?_
  rintro e w' ⟨rfl, rfl⟩
  go_wp2_with fail
  refine (none_6 Bk _ ((book_cell HB1.out 6).trans rfl)).mono ?_
  rintro e w' ⟨rfl, rfl⟩
  go_wp2_with fail
  refine (none_7 Bk _ ((book_cell HB1.out 7).trans rfl)).mono ?_
  rintro e w' ⟨rfl, rfl⟩
  go_wp2_with fail
  refine (none_8 Bk _ ((book_cell HB1.out 8).trans rfl)).mono ?_
  rintro e w' ⟨rfl, rfl⟩
  go_wp2_with fail
  refine (none_9 Bk _ ((book_cell HB1.out 9).trans rfl)).mono ?_
  rintro e w' ⟨rfl, rfl⟩
  go_wp2_with fail
  refine (none_10 Bk _ ((book_cell HB1.out 10).trans rfl)).mono ?_
  rintro e w' ⟨rfl, rfl⟩
  go_wp2_with fail
  refine (none_11 Bk _ ((book_cell HB1.out 11).trans rfl)).mono ?_
  rintro e w' ⟨rfl, rfl⟩
  go_wp2_with fail
  refine (none_12 Bk _ ((book_cell HB1.out 12).trans rfl)).mono ?_
  rintro e w' ⟨rfl, rfl⟩
  go_wp2_with fail
  refine (none_13 Bk _ ((book_cell HB1.out 13).trans rfl)).mono ?_
  rintro e w' ⟨rfl, rfl⟩
  go_wp2_with fail
  refine (none_14 Bk _ ((book_cell HB1.out 14).trans rfl)).mono ?_
  rintro e w' ⟨rfl, rfl⟩
  go_wp2_with fail
  refine (none_15 Bk _ ((book_cell HB1.out 15).trans rfl)).mono ?_
  rintro e w' ⟨rfl, rfl⟩
  go_wp2_with fail
  refine (none_16 Bk _ ((book_cell HB1.out 16).trans rfl)).mono ?_
  rintro e w' ⟨rfl, rfl⟩
  go_wp2_with fail
  refine (none_17 Bk _ ((book_cell HB1.out 17).trans rfl)).mono ?_
  rintro e w' ⟨rfl, rfl⟩
  go_wp2_with fail
  refine (none_18 Bk _ ((book_cell HB1.out 18).trans rfl)).mono ?_
  rintro e w' ⟨rfl, rfl⟩
  go_wp2_with fail
  refine (none_19 Bk _ ((book_cell HB1.out 19).trans rfl)).mono ?_
  rintro e w' ⟨rfl, rfl⟩
  have hb1 := HB1.out
  go_wp2_with (refine wpList_store_row rfl 52 _ _ rfl Bk (bookCells (.slice none 0 0)) rfl rfl 52 (bookCells sv) hb1 (by kernel_rfl) rfl nil_one ?_)
  go_ret
  exact ⟨by simp, (l1.mono (by omega)).trans (below_setRow _ _ _)⟩
end Go.Proofs.Ytoopbacnnkmpbac
