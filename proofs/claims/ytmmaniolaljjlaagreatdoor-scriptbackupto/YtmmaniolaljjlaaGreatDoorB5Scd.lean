/- The fields of an operation of each kind. (mkScc.py) -/
import Derived.Test.YtmmaniolaljjlaaGreatDoorB4Scb
import Derived.Lib.SmallJoins
import Derived.MapViews
import Derived.DeepKeys4
import Derived.Laws.BitsAllLaws
namespace Go.Proofs.YtmmaniolaljjlaaGreatDoor
open Go.RowKit Go.Shelf
set_option linter.unusedVariables false

/-- pointers to an operation's numbers, in a block above lo -/
def NumP (W : World) (lo : Nat) (v : Value) (p : Nat) (ns : List Nat) : Prop := (ns = [] ∧ v = .slice none 0 0) ∨ ∃ g, v = .slice (some ⟨g, 0, none⟩) ns.length ns.length ∧ lo ≤ g ∧ W.heap[g]? = some (.cells (ns.map fun n => Value.pointer (some ⟨p, n, none⟩)).toArray 115 (0, 0))
theorem NumP.on {W X : World} {lo : Nat} {v : Value} {p : Nat} {ns : List Nat} (h : NumP W lo v p ns) (hb : Below W.heap.size W X) : NumP X lo v p ns := by
  rcases h with h | ⟨g, h1, h2, h3⟩
  · exact .inl h
  · exact .inr ⟨g, h1, h2, (hb.block g (Array.getElem?_eq_some_iff.1 h3).1).trans h3⟩
theorem NumP.mono {W : World} {lo lo' : Nat} {v : Value} {p : Nat} {ns : List Nat} (h : NumP W lo v p ns) (hl : lo' ≤ lo) : NumP W lo' v p ns := by
  rcases h with h | ⟨g, h1, h2, h3⟩
  · exact .inl h
  · exact .inr ⟨g, h1, Nat.le_trans hl h2, h3⟩
theorem NumP.form {W : World} {lo : Nat} {v : Value} {p : Nat} {ns : List Nat} (h : NumP W lo v p ns) : ∃ pp, v = .slice pp ns.length ns.length := by
  rcases h with ⟨rfl, h⟩ | ⟨g, h1, _⟩
  · exact ⟨none, h⟩
  · exact ⟨_, h1⟩
def FldQ (W : World) (p : Nat) (h k : Bool) (ns : List Nat) (e : Ending) (W' : World) : Prop := ∃ v, e = .returned (.agg #[.bool h, v, .bool k]) ∧ NumP W' W.heap.size v p ns ∧ Below W.heap.size W W'
theorem two_new (W : World) (o : Obj) (p : Nat) (ns : List Nat) : NumP ((W.alloc o).alloc (.cells (ns.map fun n => Value.pointer (some ⟨p, n, none⟩)).toArray 115)) W.heap.size (.slice (some ⟨W.heap.size + 1, 0, none⟩) ns.length ns.length) p ns := .inr ⟨_, rfl, by omega, by
  have := heap_alloc_new (W.alloc o) (.cells (ns.map fun n => Value.pointer (some ⟨p, n, none⟩)).toArray 115)
  simpa using this⟩
theorem below_two (W : World) (o o' : Obj) : Below W.heap.size W ((W.alloc o).alloc o') := (below_alloc _ _).trans ((below_alloc _ _).mono (by simp))
theorem numP_drew {W : World} {lo : Nat} {v : Value} {p : Nat} {ns : List Nat} (h : NumP W lo v p ns) : NumP W.drew lo v p ns := h
set_option maxRecDepth 100000 in
theorem fld_1 (p : Nat) (W : World) : Calls Tryz.prog 58 #[.pointer (some ⟨p, 0, none⟩)] W (FldQ W p false false []) := by
  go_enter Tryz.func58, Tryz.ntmps58
  go_wp2_with fail
  exact bodyPost_ret (v := .agg #[.bool false, .slice none 0 0, .bool false]) (by simp [results, Tryz.results58, go_sem]) rfl ⟨_, rfl, .inl ⟨rfl, rfl⟩, below_alloc _ _⟩
set_option maxRecDepth 100000 in
theorem fld_2 (p : Nat) (W : World) : Calls Tryz.prog 59 #[.pointer (some ⟨p, 0, none⟩)] W (FldQ W p false false [1]) := by
  go_enter Tryz.func59, Tryz.ntmps59
  go_wp2_with fail
  exact bodyPost_ret (v := .agg #[.bool false, .slice (some ⟨W.heap.size + 1, 0, none⟩) 1 1, .bool false]) (by simp [results, Tryz.results59, go_sem]) rfl ⟨_, rfl, by first | exact two_new _ _ _ _ | exact numP_drew (two_new _ _ _ _), by first | exact below_two _ _ _ | exact below_drewN (below_two _ _ _) 1⟩
set_option maxRecDepth 100000 in
theorem fld_3 (p : Nat) (W : World) : Calls Tryz.prog 60 #[.pointer (some ⟨p, 0, none⟩)] W (FldQ W p true false [9, 10]) := by
  go_enter Tryz.func60, Tryz.ntmps60
  go_wp2_with fail
  go_region
  go_wp2_with fail
  exact bodyPost_ret (v := .agg #[.bool true, .slice (some ⟨W.heap.size + 1, 0, none⟩) 2 2, .bool false]) (by simp [results, Tryz.results60, go_sem]) rfl ⟨_, rfl, by first | exact two_new _ _ _ _ | exact numP_drew (two_new _ _ _ _), by first | exact below_two _ _ _ | exact below_drewN (below_two _ _ _) 1⟩
set_option maxRecDepth 100000 in
theorem fld_4 (p : Nat) (W : World) : Calls Tryz.prog 61 #[.pointer (some ⟨p, 0, none⟩)] W (FldQ W p false false [1, 2]) := by
  go_enter Tryz.func61, Tryz.ntmps61
  go_wp2_with fail
  go_region
  go_wp2_with fail
  exact bodyPost_ret (v := .agg #[.bool false, .slice (some ⟨W.heap.size + 1, 0, none⟩) 2 2, .bool false]) (by simp [results, Tryz.results61, go_sem]) rfl ⟨_, rfl, by first | exact two_new _ _ _ _ | exact numP_drew (two_new _ _ _ _), by first | exact below_two _ _ _ | exact below_drewN (below_two _ _ _) 1⟩
set_option maxRecDepth 100000 in
theorem fld_5 (p : Nat) (W : World) : Calls Tryz.prog 62 #[.pointer (some ⟨p, 0, none⟩)] W (FldQ W p false false [1, 3, 2]) := by
  go_enter Tryz.func62, Tryz.ntmps62
  go_wp2_with fail
  go_region
  go_wp2_with fail
  exact bodyPost_ret (v := .agg #[.bool false, .slice (some ⟨W.heap.size + 1, 0, none⟩) 3 3, .bool false]) (by simp [results, Tryz.results62, go_sem]) rfl ⟨_, rfl, by first | exact two_new _ _ _ _ | exact numP_drew (two_new _ _ _ _), by first | exact below_two _ _ _ | exact below_drewN (below_two _ _ _) 1⟩
set_option maxRecDepth 100000 in
theorem fld_6 (p : Nat) (W : World) : Calls Tryz.prog 63 #[.pointer (some ⟨p, 0, none⟩)] W (FldQ W p true false []) := by
  go_enter Tryz.func63, Tryz.ntmps63
  go_wp2_with fail
  exact bodyPost_ret (v := .agg #[.bool true, .slice none 0 0, .bool false]) (by simp [results, Tryz.results63, go_sem]) rfl ⟨_, rfl, .inl ⟨rfl, rfl⟩, below_alloc _ _⟩
set_option maxRecDepth 100000 in
theorem fld_7 (p : Nat) (W : World) : Calls Tryz.prog 64 #[.pointer (some ⟨p, 0, none⟩)] W (FldQ W p true true []) := by
  go_enter Tryz.func64, Tryz.ntmps64
  go_wp2_with fail
  exact bodyPost_ret (v := .agg #[.bool true, .slice none 0 0, .bool true]) (by simp [results, Tryz.results64, go_sem]) rfl ⟨_, rfl, .inl ⟨rfl, rfl⟩, below_alloc _ _⟩
set_option maxRecDepth 100000 in
set_option maxHeartbeats 2000000 in
theorem fields_no (b p k : Nat) (hk : k < 256) (W : World) (hV : IsVoc W b) (hW : Wd W) (hp : W.cell? ⟨p, 0, none⟩ = some (.int .u8 (k : Int))) (hh : hasK k = false) :
    Calls Tryz.prog 65 #[.map (some b), .pointer (some ⟨p, 0, none⟩)] W fun e W' => e = .returned (.tuple #[.agg #[.bool false, .slice none 0 0, .bool false], .bool false]) ∧ Below W.heap.size W W' := by
  obtain ⟨w1, hw1⟩ : ∃ w1, w1 = W.alloc (.cells #[.bool false, .slice none 0 0, .bool false] 113) := ⟨_, rfl⟩
  obtain ⟨F, hF⟩ : ∃ F, F = W.heap.size := ⟨_, rfl⟩
  have B1 : Below W.heap.size W w1 := by rw [hw1]; exact below_alloc _ _
  have X1 : w1.heap[F]? = some (.cells #[.bool false, .slice none 0 0, .bool false] 113 (0, 0)) := by rw [hw1, hF]; exact heap_alloc_new _ _
  have c0 := cell_below hp B1
  have hwd := word_any k hk w1 (hW.on B1)
  have hlk := voc_look (hV.on B1) k
  have HW1 := keepH hw1
  have HF := keepH hF
  have HB1 := keepH B1
  have HX1 := keepH X1
  obtain ⟨s, hs⟩ : ∃ s, s = mkS (opW k) := ⟨_, rfl⟩
  rw [← hs] at hwd hlk
  clear hs hp hV hW hw1 hF B1 X1
  rw [hh] at hlk
  obtain ⟨fv, hfv⟩ : ∃ fv, fv = fnK k := ⟨_, rfl⟩
  rw [← hfv] at hlk
  clear hfv hh
  go_enter Tryz.func65, Tryz.ntmps65
  go_upto_region 1 with fail
  rw [← HW1.out, ← HF.out]
  go_wp2_with fail
  refine hwd.mono ?_
  rintro e w ⟨rfl, rfl⟩
  go_wp2_with (first | (refine wpList_store_row rfl 113 _ _ rfl F #[.bool false, .slice none 0 0, .bool false] rfl rfl 113 #[.bool false, .slice none 0 0, .bool false] HX1.out (by kernel_rfl) rfl (by simp [Value.oneCell']) ?_) | fail)
  have hrow := setRow_heap _ F _ #[.bool false, .slice none 0 0, .bool false] 113 (0, 0) HX1.out
  refine bodyPost_ret (v := .tuple #[.agg #[.bool false, .slice none 0 0, .bool false], .bool false]) ?_ rfl ⟨rfl, ?_⟩
  · have g0 := cell_of hrow 0
    have g1 := cell_of hrow 1
    have g2 := cell_of hrow 2
    simp at g0 g1 g2
    simp [results, Tryz.results65, go_sem, g0, g1, g2]
  · exact below_setRow HB1.out (by rw [HF.out]; exact Nat.le_refl _) _
set_option maxRecDepth 100000 in
set_option maxHeartbeats 2000000 in
theorem fields_1 (b p k : Nat) (hk : k < 256) (W : World) (hV : IsVoc W b) (hW : Wd W) (hp : W.cell? ⟨p, 0, none⟩ = some (.int .u8 (k : Int))) (hfk : fnK k = .func (.func 58) #[] #[]) (hh : hasK k = true) :
    Calls Tryz.prog 65 #[.map (some b), .pointer (some ⟨p, 0, none⟩)] W fun e W' => ∃ pp, e = .returned (.tuple #[.agg #[.bool false, .slice pp 0 0, .bool false], .bool true]) ∧ NumP W' W.heap.size (.slice pp 0 0) p [] ∧ Below W.heap.size W W' := by
  obtain ⟨w1, hw1⟩ : ∃ w1, w1 = W.alloc (.cells #[.bool false, .slice none 0 0, .bool false] 113) := ⟨_, rfl⟩
  obtain ⟨F, hF⟩ : ∃ F, F = W.heap.size := ⟨_, rfl⟩
  have B1 : Below W.heap.size W w1 := by rw [hw1]; exact below_alloc _ _
  have X1 : w1.heap[F]? = some (.cells #[.bool false, .slice none 0 0, .bool false] 113 (0, 0)) := by rw [hw1, hF]; exact heap_alloc_new _ _
  have c0 := cell_below hp B1
  have hwd := word_any k hk w1 (hW.on B1)
  have hlk := voc_look (hV.on B1) k
  have HW1 := keepH hw1
  have HF := keepH hF
  have HB1 := keepH B1
  have HX1 := keepH X1
  obtain ⟨s, hs⟩ : ∃ s, s = mkS (opW k) := ⟨_, rfl⟩
  rw [← hs] at hwd hlk
  clear hs hp hV hW hw1 hF B1 X1
  rw [hh, hfk] at hlk
  have HFL := keepH (fun w => fld_1 p w)
  clear hh hfk
  go_enter Tryz.func65, Tryz.ntmps65
  go_upto_region 1 with fail
  rw [← HW1.out, ← HF.out]
  go_wp2_with fail
  refine hwd.mono ?_
  rintro e w ⟨rfl, rfl⟩
  go_wp2_with fail
  refine (HFL.out _).mono ?_
  rintro e w2 ⟨v, rfl, hnum, B2⟩
  obtain ⟨pp, hpp⟩ := hnum.form
  replace hpp : v = .slice pp 0 0 := hpp
  subst hpp
  have X2 : w2.heap[F]? = _ := (B2.block F (Array.getElem?_eq_some_iff.1 HX1.out).1).trans HX1.out
  have HX2 := keepH X2
  have HNUM := keepH hnum
  have HB2 := keepH B2
  clear hnum B2 X2
  go_wp2_with (first | (refine wpList_store_row rfl 113 _ _ rfl F #[.bool false, .slice pp 0 0, .bool false] rfl rfl 113 #[.bool false, .slice none 0 0, .bool false] HX2.out (by kernel_rfl) rfl (by simp [Value.oneCell']) ?_) | fail)
  have hrow := setRow_heap _ F _ #[.bool false, .slice pp 0 0, .bool false] 113 (0, 0) HX2.out
  refine bodyPost_ret (v := .tuple #[.agg #[.bool false, .slice pp 0 0, .bool false], .bool true]) ?_ rfl ⟨pp, rfl, ?_, ?_⟩
  · have g0 := cell_of hrow 0
    have g1 := cell_of hrow 1
    have g2 := cell_of hrow 2
    simp at g0 g1 g2
    simp [results, Tryz.results65, go_sem, g0, g1, g2]
  · rcases HNUM.out with h | ⟨g, h1, h2, h3⟩
    · exact .inl h
    · refine .inr ⟨g, h1, Nat.le_trans HB1.out.size h2, ?_⟩
      have hl := (Array.getElem?_eq_some_iff.1 HX1.out).1
      rw [setRow_other _ _ _ _ (by omega)]
      exact h3
  · exact below_setRow (below_chain HB1.out HB2.out) (by rw [HF.out]; exact Nat.le_refl _) _
set_option maxRecDepth 100000 in
set_option maxHeartbeats 2000000 in
theorem fields_2 (b p k : Nat) (hk : k < 256) (W : World) (hV : IsVoc W b) (hW : Wd W) (hp : W.cell? ⟨p, 0, none⟩ = some (.int .u8 (k : Int))) (hfk : fnK k = .func (.func 59) #[] #[]) (hh : hasK k = true) :
    Calls Tryz.prog 65 #[.map (some b), .pointer (some ⟨p, 0, none⟩)] W fun e W' => ∃ pp, e = .returned (.tuple #[.agg #[.bool false, .slice pp 1 1, .bool false], .bool true]) ∧ NumP W' W.heap.size (.slice pp 1 1) p [1] ∧ Below W.heap.size W W' := by
  obtain ⟨w1, hw1⟩ : ∃ w1, w1 = W.alloc (.cells #[.bool false, .slice none 0 0, .bool false] 113) := ⟨_, rfl⟩
  obtain ⟨F, hF⟩ : ∃ F, F = W.heap.size := ⟨_, rfl⟩
  have B1 : Below W.heap.size W w1 := by rw [hw1]; exact below_alloc _ _
  have X1 : w1.heap[F]? = some (.cells #[.bool false, .slice none 0 0, .bool false] 113 (0, 0)) := by rw [hw1, hF]; exact heap_alloc_new _ _
  have c0 := cell_below hp B1
  have hwd := word_any k hk w1 (hW.on B1)
  have hlk := voc_look (hV.on B1) k
  have HW1 := keepH hw1
  have HF := keepH hF
  have HB1 := keepH B1
  have HX1 := keepH X1
  obtain ⟨s, hs⟩ : ∃ s, s = mkS (opW k) := ⟨_, rfl⟩
  rw [← hs] at hwd hlk
  clear hs hp hV hW hw1 hF B1 X1
  rw [hh, hfk] at hlk
  have HFL := keepH (fun w => fld_2 p w)
  clear hh hfk
  go_enter Tryz.func65, Tryz.ntmps65
  go_upto_region 1 with fail
  rw [← HW1.out, ← HF.out]
  go_wp2_with fail
  refine hwd.mono ?_
  rintro e w ⟨rfl, rfl⟩
  go_wp2_with fail
  refine (HFL.out _).mono ?_
  rintro e w2 ⟨v, rfl, hnum, B2⟩
  obtain ⟨pp, hpp⟩ := hnum.form
  replace hpp : v = .slice pp 1 1 := hpp
  subst hpp
  have X2 : w2.heap[F]? = _ := (B2.block F (Array.getElem?_eq_some_iff.1 HX1.out).1).trans HX1.out
  have HX2 := keepH X2
  have HNUM := keepH hnum
  have HB2 := keepH B2
  clear hnum B2 X2
  go_wp2_with (first | (refine wpList_store_row rfl 113 _ _ rfl F #[.bool false, .slice pp 1 1, .bool false] rfl rfl 113 #[.bool false, .slice none 0 0, .bool false] HX2.out (by kernel_rfl) rfl (by simp [Value.oneCell']) ?_) | fail)
  have hrow := setRow_heap _ F _ #[.bool false, .slice pp 1 1, .bool false] 113 (0, 0) HX2.out
  refine bodyPost_ret (v := .tuple #[.agg #[.bool false, .slice pp 1 1, .bool false], .bool true]) ?_ rfl ⟨pp, rfl, ?_, ?_⟩
  · have g0 := cell_of hrow 0
    have g1 := cell_of hrow 1
    have g2 := cell_of hrow 2
    simp at g0 g1 g2
    simp [results, Tryz.results65, go_sem, g0, g1, g2]
  · rcases HNUM.out with h | ⟨g, h1, h2, h3⟩
    · exact .inl h
    · refine .inr ⟨g, h1, Nat.le_trans HB1.out.size h2, ?_⟩
      have hl := (Array.getElem?_eq_some_iff.1 HX1.out).1
      rw [setRow_other _ _ _ _ (by omega)]
      exact h3
  · exact below_setRow (below_chain HB1.out HB2.out) (by rw [HF.out]; exact Nat.le_refl _) _
set_option maxRecDepth 100000 in
set_option maxHeartbeats 2000000 in
theorem fields_3 (b p k : Nat) (hk : k < 256) (W : World) (hV : IsVoc W b) (hW : Wd W) (hp : W.cell? ⟨p, 0, none⟩ = some (.int .u8 (k : Int))) (hfk : fnK k = .func (.func 60) #[] #[]) (hh : hasK k = true) :
    Calls Tryz.prog 65 #[.map (some b), .pointer (some ⟨p, 0, none⟩)] W fun e W' => ∃ pp, e = .returned (.tuple #[.agg #[.bool true, .slice pp 2 2, .bool false], .bool true]) ∧ NumP W' W.heap.size (.slice pp 2 2) p [9, 10] ∧ Below W.heap.size W W' := by
  obtain ⟨w1, hw1⟩ : ∃ w1, w1 = W.alloc (.cells #[.bool false, .slice none 0 0, .bool false] 113) := ⟨_, rfl⟩
  obtain ⟨F, hF⟩ : ∃ F, F = W.heap.size := ⟨_, rfl⟩
  have B1 : Below W.heap.size W w1 := by rw [hw1]; exact below_alloc _ _
  have X1 : w1.heap[F]? = some (.cells #[.bool false, .slice none 0 0, .bool false] 113 (0, 0)) := by rw [hw1, hF]; exact heap_alloc_new _ _
  have c0 := cell_below hp B1
  have hwd := word_any k hk w1 (hW.on B1)
  have hlk := voc_look (hV.on B1) k
  have HW1 := keepH hw1
  have HF := keepH hF
  have HB1 := keepH B1
  have HX1 := keepH X1
  obtain ⟨s, hs⟩ : ∃ s, s = mkS (opW k) := ⟨_, rfl⟩
  rw [← hs] at hwd hlk
  clear hs hp hV hW hw1 hF B1 X1
  rw [hh, hfk] at hlk
  have HFL := keepH (fun w => fld_3 p w)
  clear hh hfk
  go_enter Tryz.func65, Tryz.ntmps65
  go_upto_region 1 with fail
  rw [← HW1.out, ← HF.out]
  go_wp2_with fail
  refine hwd.mono ?_
  rintro e w ⟨rfl, rfl⟩
  go_wp2_with fail
  refine (HFL.out _).mono ?_
  rintro e w2 ⟨v, rfl, hnum, B2⟩
  obtain ⟨pp, hpp⟩ := hnum.form
  replace hpp : v = .slice pp 2 2 := hpp
  subst hpp
  have X2 : w2.heap[F]? = _ := (B2.block F (Array.getElem?_eq_some_iff.1 HX1.out).1).trans HX1.out
  have HX2 := keepH X2
  have HNUM := keepH hnum
  have HB2 := keepH B2
  clear hnum B2 X2
  go_wp2_with (first | (refine wpList_store_row rfl 113 _ _ rfl F #[.bool true, .slice pp 2 2, .bool false] rfl rfl 113 #[.bool false, .slice none 0 0, .bool false] HX2.out (by kernel_rfl) rfl (by simp [Value.oneCell']) ?_) | fail)
  have hrow := setRow_heap _ F _ #[.bool true, .slice pp 2 2, .bool false] 113 (0, 0) HX2.out
  refine bodyPost_ret (v := .tuple #[.agg #[.bool true, .slice pp 2 2, .bool false], .bool true]) ?_ rfl ⟨pp, rfl, ?_, ?_⟩
  · have g0 := cell_of hrow 0
    have g1 := cell_of hrow 1
    have g2 := cell_of hrow 2
    simp at g0 g1 g2
    simp [results, Tryz.results65, go_sem, g0, g1, g2]
  · rcases HNUM.out with h | ⟨g, h1, h2, h3⟩
    · exact .inl h
    · refine .inr ⟨g, h1, Nat.le_trans HB1.out.size h2, ?_⟩
      have hl := (Array.getElem?_eq_some_iff.1 HX1.out).1
      rw [setRow_other _ _ _ _ (by omega)]
      exact h3
  · exact below_setRow (below_chain HB1.out HB2.out) (by rw [HF.out]; exact Nat.le_refl _) _
set_option maxRecDepth 100000 in
set_option maxHeartbeats 2000000 in
theorem fields_4 (b p k : Nat) (hk : k < 256) (W : World) (hV : IsVoc W b) (hW : Wd W) (hp : W.cell? ⟨p, 0, none⟩ = some (.int .u8 (k : Int))) (hfk : fnK k = .func (.func 61) #[] #[]) (hh : hasK k = true) :
    Calls Tryz.prog 65 #[.map (some b), .pointer (some ⟨p, 0, none⟩)] W fun e W' => ∃ pp, e = .returned (.tuple #[.agg #[.bool false, .slice pp 2 2, .bool false], .bool true]) ∧ NumP W' W.heap.size (.slice pp 2 2) p [1, 2] ∧ Below W.heap.size W W' := by
  obtain ⟨w1, hw1⟩ : ∃ w1, w1 = W.alloc (.cells #[.bool false, .slice none 0 0, .bool false] 113) := ⟨_, rfl⟩
  obtain ⟨F, hF⟩ : ∃ F, F = W.heap.size := ⟨_, rfl⟩
  have B1 : Below W.heap.size W w1 := by rw [hw1]; exact below_alloc _ _
  have X1 : w1.heap[F]? = some (.cells #[.bool false, .slice none 0 0, .bool false] 113 (0, 0)) := by rw [hw1, hF]; exact heap_alloc_new _ _
  have c0 := cell_below hp B1
  have hwd := word_any k hk w1 (hW.on B1)
  have hlk := voc_look (hV.on B1) k
  have HW1 := keepH hw1
  have HF := keepH hF
  have HB1 := keepH B1
  have HX1 := keepH X1
  obtain ⟨s, hs⟩ : ∃ s, s = mkS (opW k) := ⟨_, rfl⟩
  rw [← hs] at hwd hlk
  clear hs hp hV hW hw1 hF B1 X1
  rw [hh, hfk] at hlk
  have HFL := keepH (fun w => fld_4 p w)
  clear hh hfk
  go_enter Tryz.func65, Tryz.ntmps65
  go_upto_region 1 with fail
  rw [← HW1.out, ← HF.out]
  go_wp2_with fail
  refine hwd.mono ?_
  rintro e w ⟨rfl, rfl⟩
  go_wp2_with fail
  refine (HFL.out _).mono ?_
  rintro e w2 ⟨v, rfl, hnum, B2⟩
  obtain ⟨pp, hpp⟩ := hnum.form
  replace hpp : v = .slice pp 2 2 := hpp
  subst hpp
  have X2 : w2.heap[F]? = _ := (B2.block F (Array.getElem?_eq_some_iff.1 HX1.out).1).trans HX1.out
  have HX2 := keepH X2
  have HNUM := keepH hnum
  have HB2 := keepH B2
  clear hnum B2 X2
  go_wp2_with (first | (refine wpList_store_row rfl 113 _ _ rfl F #[.bool false, .slice pp 2 2, .bool false] rfl rfl 113 #[.bool false, .slice none 0 0, .bool false] HX2.out (by kernel_rfl) rfl (by simp [Value.oneCell']) ?_) | fail)
  have hrow := setRow_heap _ F _ #[.bool false, .slice pp 2 2, .bool false] 113 (0, 0) HX2.out
  refine bodyPost_ret (v := .tuple #[.agg #[.bool false, .slice pp 2 2, .bool false], .bool true]) ?_ rfl ⟨pp, rfl, ?_, ?_⟩
  · have g0 := cell_of hrow 0
    have g1 := cell_of hrow 1
    have g2 := cell_of hrow 2
    simp at g0 g1 g2
    simp [results, Tryz.results65, go_sem, g0, g1, g2]
  · rcases HNUM.out with h | ⟨g, h1, h2, h3⟩
    · exact .inl h
    · refine .inr ⟨g, h1, Nat.le_trans HB1.out.size h2, ?_⟩
      have hl := (Array.getElem?_eq_some_iff.1 HX1.out).1
      rw [setRow_other _ _ _ _ (by omega)]
      exact h3
  · exact below_setRow (below_chain HB1.out HB2.out) (by rw [HF.out]; exact Nat.le_refl _) _
set_option maxRecDepth 100000 in
set_option maxHeartbeats 2000000 in
theorem fields_5 (b p k : Nat) (hk : k < 256) (W : World) (hV : IsVoc W b) (hW : Wd W) (hp : W.cell? ⟨p, 0, none⟩ = some (.int .u8 (k : Int))) (hfk : fnK k = .func (.func 62) #[] #[]) (hh : hasK k = true) :
    Calls Tryz.prog 65 #[.map (some b), .pointer (some ⟨p, 0, none⟩)] W fun e W' => ∃ pp, e = .returned (.tuple #[.agg #[.bool false, .slice pp 3 3, .bool false], .bool true]) ∧ NumP W' W.heap.size (.slice pp 3 3) p [1, 3, 2] ∧ Below W.heap.size W W' := by
  obtain ⟨w1, hw1⟩ : ∃ w1, w1 = W.alloc (.cells #[.bool false, .slice none 0 0, .bool false] 113) := ⟨_, rfl⟩
  obtain ⟨F, hF⟩ : ∃ F, F = W.heap.size := ⟨_, rfl⟩
  have B1 : Below W.heap.size W w1 := by rw [hw1]; exact below_alloc _ _
  have X1 : w1.heap[F]? = some (.cells #[.bool false, .slice none 0 0, .bool false] 113 (0, 0)) := by rw [hw1, hF]; exact heap_alloc_new _ _
  have c0 := cell_below hp B1
  have hwd := word_any k hk w1 (hW.on B1)
  have hlk := voc_look (hV.on B1) k
  have HW1 := keepH hw1
  have HF := keepH hF
  have HB1 := keepH B1
  have HX1 := keepH X1
  obtain ⟨s, hs⟩ : ∃ s, s = mkS (opW k) := ⟨_, rfl⟩
  rw [← hs] at hwd hlk
  clear hs hp hV hW hw1 hF B1 X1
  rw [hh, hfk] at hlk
  have HFL := keepH (fun w => fld_5 p w)
  clear hh hfk
  go_enter Tryz.func65, Tryz.ntmps65
  go_upto_region 1 with fail
  rw [← HW1.out, ← HF.out]
  go_wp2_with fail
  refine hwd.mono ?_
  rintro e w ⟨rfl, rfl⟩
  go_wp2_with fail
  refine (HFL.out _).mono ?_
  rintro e w2 ⟨v, rfl, hnum, B2⟩
  obtain ⟨pp, hpp⟩ := hnum.form
  replace hpp : v = .slice pp 3 3 := hpp
  subst hpp
  have X2 : w2.heap[F]? = _ := (B2.block F (Array.getElem?_eq_some_iff.1 HX1.out).1).trans HX1.out
  have HX2 := keepH X2
  have HNUM := keepH hnum
  have HB2 := keepH B2
  clear hnum B2 X2
  go_wp2_with (first | (refine wpList_store_row rfl 113 _ _ rfl F #[.bool false, .slice pp 3 3, .bool false] rfl rfl 113 #[.bool false, .slice none 0 0, .bool false] HX2.out (by kernel_rfl) rfl (by simp [Value.oneCell']) ?_) | fail)
  have hrow := setRow_heap _ F _ #[.bool false, .slice pp 3 3, .bool false] 113 (0, 0) HX2.out
  refine bodyPost_ret (v := .tuple #[.agg #[.bool false, .slice pp 3 3, .bool false], .bool true]) ?_ rfl ⟨pp, rfl, ?_, ?_⟩
  · have g0 := cell_of hrow 0
    have g1 := cell_of hrow 1
    have g2 := cell_of hrow 2
    simp at g0 g1 g2
    simp [results, Tryz.results65, go_sem, g0, g1, g2]
  · rcases HNUM.out with h | ⟨g, h1, h2, h3⟩
    · exact .inl h
    · refine .inr ⟨g, h1, Nat.le_trans HB1.out.size h2, ?_⟩
      have hl := (Array.getElem?_eq_some_iff.1 HX1.out).1
      rw [setRow_other _ _ _ _ (by omega)]
      exact h3
  · exact below_setRow (below_chain HB1.out HB2.out) (by rw [HF.out]; exact Nat.le_refl _) _
set_option maxRecDepth 100000 in
set_option maxHeartbeats 2000000 in
theorem fields_6 (b p k : Nat) (hk : k < 256) (W : World) (hV : IsVoc W b) (hW : Wd W) (hp : W.cell? ⟨p, 0, none⟩ = some (.int .u8 (k : Int))) (hfk : fnK k = .func (.func 63) #[] #[]) (hh : hasK k = true) :
    Calls Tryz.prog 65 #[.map (some b), .pointer (some ⟨p, 0, none⟩)] W fun e W' => ∃ pp, e = .returned (.tuple #[.agg #[.bool true, .slice pp 0 0, .bool false], .bool true]) ∧ NumP W' W.heap.size (.slice pp 0 0) p [] ∧ Below W.heap.size W W' := by
  obtain ⟨w1, hw1⟩ : ∃ w1, w1 = W.alloc (.cells #[.bool false, .slice none 0 0, .bool false] 113) := ⟨_, rfl⟩
  obtain ⟨F, hF⟩ : ∃ F, F = W.heap.size := ⟨_, rfl⟩
  have B1 : Below W.heap.size W w1 := by rw [hw1]; exact below_alloc _ _
  have X1 : w1.heap[F]? = some (.cells #[.bool false, .slice none 0 0, .bool false] 113 (0, 0)) := by rw [hw1, hF]; exact heap_alloc_new _ _
  have c0 := cell_below hp B1
  have hwd := word_any k hk w1 (hW.on B1)
  have hlk := voc_look (hV.on B1) k
  have HW1 := keepH hw1
  have HF := keepH hF
  have HB1 := keepH B1
  have HX1 := keepH X1
  obtain ⟨s, hs⟩ : ∃ s, s = mkS (opW k) := ⟨_, rfl⟩
  rw [← hs] at hwd hlk
  clear hs hp hV hW hw1 hF B1 X1
  rw [hh, hfk] at hlk
  have HFL := keepH (fun w => fld_6 p w)
  clear hh hfk
  go_enter Tryz.func65, Tryz.ntmps65
  go_upto_region 1 with fail
  rw [← HW1.out, ← HF.out]
  go_wp2_with fail
  refine hwd.mono ?_
  rintro e w ⟨rfl, rfl⟩
  go_wp2_with fail
  refine (HFL.out _).mono ?_
  rintro e w2 ⟨v, rfl, hnum, B2⟩
  obtain ⟨pp, hpp⟩ := hnum.form
  replace hpp : v = .slice pp 0 0 := hpp
  subst hpp
  have X2 : w2.heap[F]? = _ := (B2.block F (Array.getElem?_eq_some_iff.1 HX1.out).1).trans HX1.out
  have HX2 := keepH X2
  have HNUM := keepH hnum
  have HB2 := keepH B2
  clear hnum B2 X2
  go_wp2_with (first | (refine wpList_store_row rfl 113 _ _ rfl F #[.bool true, .slice pp 0 0, .bool false] rfl rfl 113 #[.bool false, .slice none 0 0, .bool false] HX2.out (by kernel_rfl) rfl (by simp [Value.oneCell']) ?_) | fail)
  have hrow := setRow_heap _ F _ #[.bool true, .slice pp 0 0, .bool false] 113 (0, 0) HX2.out
  refine bodyPost_ret (v := .tuple #[.agg #[.bool true, .slice pp 0 0, .bool false], .bool true]) ?_ rfl ⟨pp, rfl, ?_, ?_⟩
  · have g0 := cell_of hrow 0
    have g1 := cell_of hrow 1
    have g2 := cell_of hrow 2
    simp at g0 g1 g2
    simp [results, Tryz.results65, go_sem, g0, g1, g2]
  · rcases HNUM.out with h | ⟨g, h1, h2, h3⟩
    · exact .inl h
    · refine .inr ⟨g, h1, Nat.le_trans HB1.out.size h2, ?_⟩
      have hl := (Array.getElem?_eq_some_iff.1 HX1.out).1
      rw [setRow_other _ _ _ _ (by omega)]
      exact h3
  · exact below_setRow (below_chain HB1.out HB2.out) (by rw [HF.out]; exact Nat.le_refl _) _
set_option maxRecDepth 100000 in
set_option maxHeartbeats 2000000 in
theorem fields_7 (b p k : Nat) (hk : k < 256) (W : World) (hV : IsVoc W b) (hW : Wd W) (hp : W.cell? ⟨p, 0, none⟩ = some (.int .u8 (k : Int))) (hfk : fnK k = .func (.func 64) #[] #[]) (hh : hasK k = true) :
    Calls Tryz.prog 65 #[.map (some b), .pointer (some ⟨p, 0, none⟩)] W fun e W' => ∃ pp, e = .returned (.tuple #[.agg #[.bool true, .slice pp 0 0, .bool true], .bool true]) ∧ NumP W' W.heap.size (.slice pp 0 0) p [] ∧ Below W.heap.size W W' := by
  obtain ⟨w1, hw1⟩ : ∃ w1, w1 = W.alloc (.cells #[.bool false, .slice none 0 0, .bool false] 113) := ⟨_, rfl⟩
  obtain ⟨F, hF⟩ : ∃ F, F = W.heap.size := ⟨_, rfl⟩
  have B1 : Below W.heap.size W w1 := by rw [hw1]; exact below_alloc _ _
  have X1 : w1.heap[F]? = some (.cells #[.bool false, .slice none 0 0, .bool false] 113 (0, 0)) := by rw [hw1, hF]; exact heap_alloc_new _ _
  have c0 := cell_below hp B1
  have hwd := word_any k hk w1 (hW.on B1)
  have hlk := voc_look (hV.on B1) k
  have HW1 := keepH hw1
  have HF := keepH hF
  have HB1 := keepH B1
  have HX1 := keepH X1
  obtain ⟨s, hs⟩ : ∃ s, s = mkS (opW k) := ⟨_, rfl⟩
  rw [← hs] at hwd hlk
  clear hs hp hV hW hw1 hF B1 X1
  rw [hh, hfk] at hlk
  have HFL := keepH (fun w => fld_7 p w)
  clear hh hfk
  go_enter Tryz.func65, Tryz.ntmps65
  go_upto_region 1 with fail
  rw [← HW1.out, ← HF.out]
  go_wp2_with fail
  refine hwd.mono ?_
  rintro e w ⟨rfl, rfl⟩
  go_wp2_with fail
  refine (HFL.out _).mono ?_
  rintro e w2 ⟨v, rfl, hnum, B2⟩
  obtain ⟨pp, hpp⟩ := hnum.form
  replace hpp : v = .slice pp 0 0 := hpp
  subst hpp
  have X2 : w2.heap[F]? = _ := (B2.block F (Array.getElem?_eq_some_iff.1 HX1.out).1).trans HX1.out
  have HX2 := keepH X2
  have HNUM := keepH hnum
  have HB2 := keepH B2
  clear hnum B2 X2
  go_wp2_with (first | (refine wpList_store_row rfl 113 _ _ rfl F #[.bool true, .slice pp 0 0, .bool true] rfl rfl 113 #[.bool false, .slice none 0 0, .bool false] HX2.out (by kernel_rfl) rfl (by simp [Value.oneCell']) ?_) | fail)
  have hrow := setRow_heap _ F _ #[.bool true, .slice pp 0 0, .bool true] 113 (0, 0) HX2.out
  refine bodyPost_ret (v := .tuple #[.agg #[.bool true, .slice pp 0 0, .bool true], .bool true]) ?_ rfl ⟨pp, rfl, ?_, ?_⟩
  · have g0 := cell_of hrow 0
    have g1 := cell_of hrow 1
    have g2 := cell_of hrow 2
    simp at g0 g1 g2
    simp [results, Tryz.results65, go_sem, g0, g1, g2]
  · rcases HNUM.out with h | ⟨g, h1, h2, h3⟩
    · exact .inl h
    · refine .inr ⟨g, h1, Nat.le_trans HB1.out.size h2, ?_⟩
      have hl := (Array.getElem?_eq_some_iff.1 HX1.out).1
      rw [setRow_other _ _ _ _ (by omega)]
      exact h3
  · exact below_setRow (below_chain HB1.out HB2.out) (by rw [HF.out]; exact Nat.le_refl _) _
theorem fields_any (b p k : Nat) (hk : k < 256) (W : World) (hV : IsVoc W b) (hW : Wd W) (hp : W.cell? ⟨p, 0, none⟩ = some (.int .u8 (k : Int))) : ∀ hh : hasK k = true,
    Calls Tryz.prog 65 #[.map (some b), .pointer (some ⟨p, 0, none⟩)] W fun e W' => ∃ pp, e = .returned (.tuple #[.agg #[.bool (hndK k), .slice pp (numK k).length (numK k).length, .bool (kysK k)], .bool true]) ∧ NumP W' W.heap.size (.slice pp (numK k).length (numK k).length) p (numK k) ∧ Below W.heap.size W W' := by
  intro hh
  have : k = 1 ∨ k = 2 ∨ k = 3 ∨ k = 4 ∨ k = 5 ∨ k = 6 ∨ k = 7 ∨ k = 8 ∨ k = 9 ∨ k = 10 := by simp [hasK] at hh; omega
  rcases this with rfl | rfl | rfl | rfl | rfl | rfl | rfl | rfl | rfl | rfl
  · exact fields_2 b p 1 hk W hV hW hp rfl rfl
  · exact fields_4 b p 2 hk W hV hW hp rfl rfl
  · exact fields_2 b p 3 hk W hV hW hp rfl rfl
  · exact fields_5 b p 4 hk W hV hW hp rfl rfl
  · exact fields_1 b p 5 hk W hV hW hp rfl rfl
  · exact fields_6 b p 6 hk W hV hW hp rfl rfl
  · exact fields_7 b p 7 hk W hV hW hp rfl rfl
  · exact fields_3 b p 8 hk W hV hW hp rfl rfl
  · exact fields_3 b p 9 hk W hV hW hp rfl rfl
  · exact fields_1 b p 10 hk W hV hW hp rfl rfl
end Go.Proofs.YtmmaniolaljjlaaGreatDoor
/- An operation: its cells; whether it names its handle in one way; whether it is blank. -/
namespace Go.Proofs.YtmmaniolaljjlaaGreatDoor
open Go.RowKit Go.Joins Go.Shelf
set_option linter.unusedVariables false

structure Opx where
  k : Nat
  key : Nat
  val : Nat
  old : Nat
  hnd : Nat
  set : Bool
  rt : Int
  ri : Int
  keys : List Nat
  lo : Nat
  hi : Nat
abbrev opR (k key val old hnd : Nat) (set : Bool) (rt ri : Int) (vk : Value) (lo hi : Nat) : Array Value := #[.int .u8 (k : Int), .int .u64 (key : Int), .int .u64 (val : Int), .int .u64 (old : Int), .int .u64 (hnd : Int), .bool set, .int .i64 rt, .int .i64 ri, vk, .int .u64 (lo : Int), .int .u64 (hi : Int)]
def isI (z : Int) : Prop := -9223372036854775808 ≤ z ∧ z < 9223372036854775808
structure Opx.Ok (o : Opx) : Prop where
  k : o.k < 256
  key : isU o.key
  val : isU o.val
  old : isU o.old
  hnd : isU o.hnd
  rt : isI o.rt
  ri : isI o.ri
  keys : ∀ u ∈ o.keys, isU u
  lo : isU o.lo
  hi : isU o.hi
theorem or_nat (x y : Nat) (hx : x < 18446744073709551616) (hy : y < 18446744073709551616) : bits .or .u64 (x : Int) (y : Int) = ((x ||| y : Nat) : Int) ∧ x ||| y < 18446744073709551616 := by
  have hlt : x ||| y < 2 ^ 64 := Nat.or_lt_two_pow (by omega) (by omega)
  refine ⟨?_, by omega⟩
  exact u64_or_nat x y hx hy
theorem or_6 (a b c d e f : Nat) (ha : isU a) (hb : isU b) (hc : isU c) (hd : isU d) (he : isU e) (hf : isU f) :
    ∃ m : Nat, bits .or .u64 (bits .or .u64 (bits .or .u64 (bits .or .u64 (bits .or .u64 (a : Int) (b : Int)) (c : Int)) (d : Int)) (e : Int)) (f : Int) = (m : Int) ∧ (m = 0 ↔ a = 0 ∧ b = 0 ∧ c = 0 ∧ d = 0 ∧ e = 0 ∧ f = 0) := by
  unfold isU at *
  obtain ⟨e1, l1⟩ := or_nat a b ha hb
  obtain ⟨e2, l2⟩ := or_nat _ c l1 hc
  obtain ⟨e3, l3⟩ := or_nat _ d l2 hd
  obtain ⟨e4, l4⟩ := or_nat _ e l3 he
  obtain ⟨e5, l5⟩ := or_nat _ f l4 hf
  refine ⟨_, by rw [e1, e2, e3, e4, e5], ?_⟩
  simp [Nat.or_eq_zero_iff, and_assoc]
theorem wf_i64 {n : Int} (h : isI n) : (Lit.int .i64 n).wf = true := by
  have e1 : IntKind.i64.min = -9223372036854775808 := by decide
  have e2 : IntKind.i64.max = 9223372036854775807 := by decide
  unfold isI at h
  simp [Lit.wf, e1, e2]
  omega
theorem trod_i (n : Int) (h : isI n) (w : World) : ∃ m, DataW.trod (H := Unit) (fun _ => ()) Tryz.prog w 0 (fun _ => true) true m 3 [.int .i64 n] = some (.lit (.int .i64 n), []) :=
  ⟨1, by simp [DataW.trod, Tryz.underlying3, wf_i64 h]⟩
theorem trod_b (b : Bool) (w : World) : ∃ m, DataW.trod (H := Unit) (fun _ => ()) Tryz.prog w 0 (fun _ => true) true m 4 [.bool b] = some (.lit (.bool b), []) :=
  ⟨1, by simp [DataW.trod, Tryz.underlying4]⟩
abbrev refV (s : Bool) (a b : Int) : Value := .agg #[.bool s, .int .i64 a, .int .i64 b]
theorem ref_key (s : Bool) (a b : Int) (ha : isI a) (hb : isI b) (w : World) : ∃ l, keyOf Tryz.prog 25 (refV s a b) = some l := by
  have t := shut_agg3 (enc := fun _ => ()) (P := Tryz.prog) (w := w) (base := 0) (spare := fun _ => true) (held := true) Tryz.underlying25 (by kernel_rfl) (by kernel_rfl) (trod_b s w) (trod_i a ha w) (trod_i b hb w)
  exact ⟨_, (keyOf_asKey (by kernel_rfl) (by kernel_rfl) (by kernel_rfl) t).1⟩
set_option maxRecDepth 100000 in
theorem ref_eql (s : Bool) (a b : Int) (s' : Bool) (a' b' : Int) (ha : isI a) (hb : isI b) (ha' : isI a') (hb' : isI b') (w : World) :
    (Op.equal 25 (refV s a b) (refV s' a' b')).run Tryz.prog w = .ok (decide ((s, a, b) = (s', a', b'))) w := by
  obtain ⟨l, hl⟩ := ref_key s a b ha hb w
  obtain ⟨l', hl'⟩ := ref_key s' a' b' ha' hb' w
  obtain ⟨r, hr, hi⟩ := run_equal_deep (P := Tryz.prog) w (m := 3) (by omega) (by kernel_rfl) (by kernel_rfl) hl hl'
  rw [hr]
  congr 1
  by_cases e : (s, a, b) = (s', a', b')
  · simp only [Prod.mk.injEq] at e
    obtain ⟨rfl, rfl, rfl⟩ := e
    rw [hl] at hl'
    simp only [Option.some.injEq] at hl'
    simp [hi.2 hl']
  · have h1 : ¬ r = true := fun h => by
      have h2 := hi.1 h
      subst h2
      have h3 := keyOf_inj_deep (P := Tryz.prog) (m := 3) (by kernel_rfl) (by kernel_rfl) hl hl'
      simp at h3
      exact e (by simp; exact h3)
    simp [e, h1]
theorem ref_eq0 (s : Bool) (a b : Int) (ha : isI a) (hb : isI b) (w : World) :
    (binOp .eql 25 (refV s a b) (refV false 0 0)).run Tryz.prog w = .ok (.bool (decide (s = false ∧ a = 0 ∧ b = 0))) w := by
  have h := ref_eql s a b false 0 0 ha hb ⟨by omega, by omega⟩ ⟨by omega, by omega⟩ w
  simp only [binOp, go_sem]
  simp [h, Result.andThen]

def blB (key val old hnd lo hi : Nat) (set : Bool) (rt ri : Int) (n : Nat) : Bool := decide ((key = 0 ∧ val = 0 ∧ old = 0 ∧ hnd = 0 ∧ lo = 0 ∧ hi = 0) ∧ (set = false ∧ rt = 0 ∧ ri = 0) ∧ n = 0)
def rhB (hnd : Nat) (set : Bool) (rt ri : Int) : Bool := if set then decide (hnd = 0 ∧ 0 ≤ rt ∧ 0 ≤ ri) else decide (rt = 0 ∧ ri = 0)
set_option maxRecDepth 100000 in
theorem too_any (k key val old hnd : Nat) (set : Bool) (rt ri : Int) (kp : Option Addr) (n kc lo hi : Nat) (W : World) :
    Calls Tryz.prog 66 #[.agg (opR k key val old hnd set rt ri (.slice kp n kc) lo hi)] W fun e W' => e = .returned (.bool (decide (k = 7 ∧ 1024 < n))) ∧ Below W.heap.size W W' := by
  by_cases h7 : k = 7
  · subst h7
    go_enter Tryz.func66, Tryz.ntmps66
    go_wp2_with fail
    go_ret
    exact ⟨by simp; omega, below_alloc _ _⟩
  · have t7 : ¬ ((k : Int) = 7) := by omega
    have u7 : ((k : Int) == 7) = false := by simpa using t7
    go_enter Tryz.func66, Tryz.ntmps66
    go_wp2_with fail
    go_ret
    exact ⟨by simp [h7], below_alloc _ _⟩
set_option maxRecDepth 100000 in
theorem rh_any (k key val old hnd : Nat) (set : Bool) (rt ri : Int) (vk : Value) (lo hi : Nat) (ha : isI rt) (hb : isI ri) (W : World) :
    Calls Tryz.prog 67 #[.agg (opR k key val old hnd set rt ri vk lo hi)] W fun e W' => e = .returned (.bool (rhB hnd set rt ri)) ∧ Below W.heap.size W W' := by
  have he := fun w => ref_eq0 set rt ri ha hb w
  cases set with
  | false =>
    clear ha hb
    go_enter Tryz.func67, Tryz.ntmps67
    go_wp2_with fail
    go_ret
    exact ⟨by simp [rhB], below_alloc _ _⟩
  | true =>
    clear he ha hb
    by_cases h1 : hnd = 0
    · subst h1
      by_cases h2 : 0 ≤ rt
      · go_enter Tryz.func67, Tryz.ntmps67
        go_wp2_with fail
        go_ret
        exact ⟨by simp [rhB, h2], below_alloc _ _⟩
      · go_enter Tryz.func67, Tryz.ntmps67
        go_wp2_with fail
        go_ret
        exact ⟨by simp [rhB]; omega, below_alloc _ _⟩
    · have t1 : ¬ ((hnd : Int) = 0) := by omega
      have u1 : ((hnd : Int) == 0) = false := by simpa using t1
      go_enter Tryz.func67, Tryz.ntmps67
      go_wp2_with fail
      go_ret
      exact ⟨by simp [rhB, h1], below_alloc _ _⟩
set_option maxRecDepth 100000 in
theorem blank_any (k key val old hnd : Nat) (set : Bool) (rt ri : Int) (kp : Option Addr) (n kc lo hi : Nat) (h1 : isU key) (h2 : isU val) (h3 : isU old) (h4 : isU hnd) (h5 : isU lo) (h6 : isU hi) (ha : isI rt) (hb : isI ri) (W : World) :
    Calls Tryz.prog 68 #[.agg (opR k key val old hnd set rt ri (.slice kp n kc) lo hi)] W fun e W' => e = .returned (.bool (blB key val old hnd lo hi set rt ri n)) ∧ Below W.heap.size W W' := by
  have he := fun w => ref_eq0 set rt ri ha hb w
  obtain ⟨m, hm, hz⟩ := or_6 key val old hnd lo hi h1 h2 h3 h4 h5 h6
  have hbl : blB key val old hnd lo hi set rt ri n = decide (m = 0 ∧ (set = false ∧ rt = 0 ∧ ri = 0) ∧ n = 0) := by
    unfold blB
    rw [decide_eq_decide, hz]
  rw [hbl]
  clear hbl hz h1 h2 h3 h4 h5 h6 ha hb
  by_cases c1 : m = 0
  · subst c1
    by_cases c2 : set = false ∧ rt = 0 ∧ ri = 0
    · have c2' : decide (set = false ∧ rt = 0 ∧ ri = 0) = true := by simpa using c2
      simp only [c2'] at he
      have R : decide ((0 = 0) ∧ (set = false ∧ rt = 0 ∧ ri = 0) ∧ n = 0) = decide (n = 0) := by simp [c2]
      have R' : decide (n = 0) = ((n : Int) == 0) := by rw [Bool.eq_iff_iff]; simp
      rw [R, R']
      clear R'
      clear c2 c2' R
      go_enter Tryz.func68, Tryz.ntmps68
      go_wp2_with fail
      go_ret
      exact ⟨by simp, below_alloc _ _⟩
    · have c2' : decide (set = false ∧ rt = 0 ∧ ri = 0) = false := by simpa using c2
      simp only [c2'] at he
      have R : decide ((0 = 0) ∧ (set = false ∧ rt = 0 ∧ ri = 0) ∧ n = 0) = false := by simp; intro a b c; exact absurd ⟨a, b, c⟩ c2
      rw [R]
      clear c2 c2' R
      go_enter Tryz.func68, Tryz.ntmps68
      go_wp2_with fail
      go_ret
      exact ⟨by simp, below_alloc _ _⟩
  · have t1 : ¬ ((m : Int) = 0) := by omega
    have u1 : ((m : Int) == 0) = false := by simpa using t1
    go_enter Tryz.func68, Tryz.ntmps68
    go_wp2_with fail
    go_ret
    exact ⟨by simp [c1], below_alloc _ _⟩
end Go.Proofs.YtmmaniolaljjlaaGreatDoor
