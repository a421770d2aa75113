/- The fields of an operation of each kind. (mkScc.py) -/
import Derived.Test.YtmmaniolaljjlaaGreatDoorScb
namespace Go.Proofs.YtmmaniolaljjlaaGreatDoor
open Go.RowKit Go.Shelf
set_option linter.unusedVariables false

/-- pointers to an operation's numbers, in a block above lo -/
def NumP (W : World) (lo : Nat) (v : Value) (p : Nat) (ns : List Nat) : Prop := (ns = [] ∧ v = .slice none 0 0) ∨ ∃ g, v = .slice (some ⟨g, 0, none⟩) ns.length ns.length ∧ lo ≤ g ∧ W.heap[g]? = some (.cells (ns.map fun n => Value.pointer (some ⟨p, n, none⟩)).toArray 115 (0, 0))
theorem NumP.on {W X : World} {lo : Nat} {v : Value} {p : Nat} {ns : List Nat} (h : NumP W lo v p ns) (hb : Below W.heap.size W X) : NumP X lo v p ns := by
  rcases h with h | ⟨g, h1, h2, h3⟩
  · exact .inl h
  · exact .inr ⟨g, h1, h2, (hb.block g (Array.getElem?_eq_some_iff.1 h3).1).trans h3⟩
theorem NumP.mono {W : World} {lo lo' : Nat} {v : Value} {p : Nat} {ns : List Nat} (h : NumP W lo v p ns) (hl : lo' ≤ lo) : NumP W lo' v p ns := by
  rcases h with h | ⟨g, h1, h2, h3⟩
  · exact .inl h
  · exact .inr ⟨g, h1, Nat.le_trans hl h2, h3⟩
theorem NumP.form {W : World} {lo : Nat} {v : Value} {p : Nat} {ns : List Nat} (h : NumP W lo v p ns) : ∃ pp, v = .slice pp ns.length ns.length := by
  rcases h with ⟨rfl, h⟩ | ⟨g, h1, _⟩
  · exact ⟨none, h⟩
  · exact ⟨_, h1⟩
def FldQ (W : World) (p : Nat) (h k : Bool) (ns : List Nat) (e : Ending) (W' : World) : Prop := ∃ v, e = .returned (.agg #[.bool h, v, .bool k]) ∧ NumP W' W.heap.size v p ns ∧ Below W.heap.size W W'
theorem two_new (W : World) (o : Obj) (p : Nat) (ns : List Nat) : NumP ((W.alloc o).alloc (.cells (ns.map fun n => Value.pointer (some ⟨p, n, none⟩)).toArray 115)) W.heap.size (.slice (some ⟨W.heap.size + 1, 0, none⟩) ns.length ns.length) p ns := .inr ⟨_, rfl, by omega, by
  have := heap_alloc_new (W.alloc o) (.cells (ns.map fun n => Value.pointer (some ⟨p, n, none⟩)).toArray 115)
  simpa using this⟩
theorem below_two (W : World) (o o' : Obj) : Below W.heap.size W ((W.alloc o).alloc o') := (below_alloc _ _).trans ((below_alloc _ _).mono (by simp))
theorem numP_drew {W : World} {lo : Nat} {v : Value} {p : Nat} {ns : List Nat} (h : NumP W lo v p ns) : NumP W.drew lo v p ns := h
set_option maxRecDepth 100000 in
theorem fld_1 (p : Nat) (W : World) : Calls Tryz.prog 58 #[.pointer (some ⟨p, 0, none⟩)] W (FldQ W p false false []) := by
  go_enter Tryz.func58, Tryz.ntmps58
  go_wp2_with fail
  exact bodyPost_ret (v := .agg #[.bool false, .slice none 0 0, .bool false]) (by simp [results, Tryz.results58, go_sem]) rfl ⟨_, rfl, .inl ⟨rfl, rfl⟩, below_alloc _ _⟩
set_option maxRecDepth 100000 in
theorem fld_2 (p : Nat) (W : World) : Calls Tryz.prog 59 #[.pointer (some ⟨p, 0, none⟩)] W (FldQ W p false false [1]) := by
  go_enter Tryz.func59, Tryz.ntmps59
  go_wp2_with fail
  exact bodyPost_ret (v := .agg #[.bool false, .slice (some ⟨W.heap.size + 1, 0, none⟩) 1 1, .bool false]) (by simp [results, Tryz.results59, go_sem]) rfl ⟨_, rfl, by first | exact two_new _ _ _ _ | exact numP_drew (two_new _ _ _ _), by first | exact below_two _ _ _ | exact below_drewN (below_two _ _ _) 1⟩
set_option maxRecDepth 100000 in
theorem fld_3 (p : Nat) (W : World) : Calls Tryz.prog 60 #[.pointer (some ⟨p, 0, none⟩)] W (FldQ W p true false [9, 10]) := by
  go_enter Tryz.func60, Tryz.ntmps60
  go_wp2_with fail
  go_region
  go_wp2_with fail
  exact bodyPost_ret (v := .agg #[.bool true, .slice (some ⟨W.heap.size + 1, 0, none⟩) 2 2, .bool false]) (by simp [results, Tryz.results60, go_sem]) rfl ⟨_, rfl, by first | exact two_new _ _ _ _ | exact numP_drew (two_new _ _ _ _), by first | exact below_two _ _ _ | exact below_drewN (below_two _ _ _) 1⟩
set_option maxRecDepth 100000 in
theorem fld_4 (p : Nat) (W : World) : Calls Tryz.prog 61 #[.pointer (some ⟨p, 0, none⟩)] W (FldQ W p false false [1, 2]) := by
  go_enter Tryz.func61, Tryz.ntmps61
  go_wp2_with fail
  go_region
  go_wp2_with fail
  exact bodyPost_ret (v := .agg #[.bool false, .slice (some ⟨W.heap.size + 1, 0, none⟩) 2 2, .bool false]) (by simp [results, Tryz.results61, go_sem]) rfl ⟨_, rfl, by first | exact two_new _ _ _ _ | exact numP_drew (two_new _ _ _ _), by first | exact below_two _ _ _ | exact below_drewN (below_two _ _ _) 1⟩
set_option maxRecDepth 100000 in
theorem fld_5 (p : Nat) (W : World) : Calls Tryz.prog 62 #[.pointer (some ⟨p, 0, none⟩)] W (FldQ W p false false [1, 3, 2]) := by
  go_enter Tryz.func62, Tryz.ntmps62
  go_wp2_with fail
  go_region
  go_wp2_with fail
  exact bodyPost_ret (v := .agg #[.bool false, .slice (some ⟨W.heap.size + 1, 0, none⟩) 3 3, .bool false]) (by simp [results, Tryz.results62, go_sem]) rfl ⟨_, rfl, by first | exact two_new _ _ _ _ | exact numP_drew (two_new _ _ _ _), by first | exact below_two _ _ _ | exact below_drewN (below_two _ _ _) 1⟩
set_option maxRecDepth 100000 in
theorem fld_6 (p : Nat) (W : World) : Calls Tryz.prog 63 #[.pointer (some ⟨p, 0, none⟩)] W (FldQ W p true false []) := by
  go_enter Tryz.func63, Tryz.ntmps63
  go_wp2_with fail
  exact bodyPost_ret (v := .agg #[.bool true, .slice none 0 0, .bool false]) (by simp [results, Tryz.results63, go_sem]) rfl ⟨_, rfl, .inl ⟨rfl, rfl⟩, below_alloc _ _⟩
set_option maxRecDepth 100000 in
theorem fld_7 (p : Nat) (W : World) : Calls Tryz.prog 64 #[.pointer (some ⟨p, 0, none⟩)] W (FldQ W p true true []) := by
  go_enter Tryz.func64, Tryz.ntmps64
  go_wp2_with fail
  exact bodyPost_ret (v := .agg #[.bool true, .slice none 0 0, .bool true]) (by simp [results, Tryz.results64, go_sem]) rfl ⟨_, rfl, .inl ⟨rfl, rfl⟩, below_alloc _ _⟩
def fnN : Nat → Nat
  | 1 => 59 | 2 => 61 | 3 => 59 | 4 => 62 | 5 => 58 | 6 => 63 | 7 => 64 | 8 => 60 | 9 => 60 | 10 => 58 | _ => 0
theorem fn_of : ∀ k, hasK k = true → fnK k = .func (.func (fnN k)) #[] #[]
  | 0, h => by simp [hasK] at h
  | 1, _ => rfl | 2, _ => rfl | 3, _ => rfl | 4, _ => rfl | 5, _ => rfl | 6, _ => rfl | 7, _ => rfl | 8, _ => rfl | 9, _ => rfl | 10, _ => rfl
  | n + 11, h => by simp [hasK] at h
theorem fld_any (p : Nat) (W : World) : ∀ k, hasK k = true → Calls Tryz.prog (fnN k) #[.pointer (some ⟨p, 0, none⟩)] W (FldQ W p (hndK k) (kysK k) (numK k))
  | 0, h => by simp [hasK] at h
  | 1, _ => fld_2 p W
  | 2, _ => fld_4 p W
  | 3, _ => fld_2 p W
  | 4, _ => fld_5 p W
  | 5, _ => fld_1 p W
  | 6, _ => fld_6 p W
  | 7, _ => fld_7 p W
  | 8, _ => fld_3 p W
  | 9, _ => fld_3 p W
  | 10, _ => fld_1 p W
  | n + 11, h => by simp [hasK] at h
set_option maxRecDepth 100000 in
set_option maxHeartbeats 2000000 in
theorem fields_no (b p k : Nat) (hk : k < 256) (W : World) (hV : IsVoc W b) (hW : Wd W) (hp : W.cell? ⟨p, 0, none⟩ = some (.int .u8 (k : Int))) (hh : hasK k = false) :
    Calls Tryz.prog 65 #[.map (some b), .pointer (some ⟨p, 0, none⟩)] W fun e W' => e = .returned (.tuple #[.agg #[.bool false, .slice none 0 0, .bool false], .bool false]) ∧ Below W.heap.size W W' := by
  obtain ⟨w1, hw1⟩ : ∃ w1, w1 = W.alloc (.cells #[.bool false, .slice none 0 0, .bool false] 113) := ⟨_, rfl⟩
  obtain ⟨F, hF⟩ : ∃ F, F = W.heap.size := ⟨_, rfl⟩
  have B1 : Below W.heap.size W w1 := by rw [hw1]; exact below_alloc _ _
  have X1 : w1.heap[F]? = some (.cells #[.bool false, .slice none 0 0, .bool false] 113 (0, 0)) := by rw [hw1, hF]; exact heap_alloc_new _ _
  have c0 := cell_below hp B1
  have hwd := word_any k hk w1 (hW.on B1)
  have hlk := voc_look (hV.on B1) k
  have HW1 := keepH hw1
  have HF := keepH hF
  have HB1 := keepH B1
  have HX1 := keepH X1
  obtain ⟨s, hs⟩ : ∃ s, s = mkS (opW k) := ⟨_, rfl⟩
  rw [← hs] at hwd hlk
  clear hs hp hV hW hw1 hF B1 X1
  rw [hh] at hlk
  obtain ⟨fv, hfv⟩ : ∃ fv, fv = fnK k := ⟨_, rfl⟩
  rw [← hfv] at hlk
  clear hfv hh
  go_enter Tryz.func65, Tryz.ntmps65
  go_upto_region 1 with fail
  rw [← HW1.out, ← HF.out]
  go_wp2_with fail
  refine hwd.mono ?_
  rintro e w ⟨rfl, rfl⟩
  go_wp2_with (first | (refine wpList_store_row rfl 113 _ _ rfl F #[.bool false, .slice none 0 0, .bool false] rfl rfl 113 #[.bool false, .slice none 0 0, .bool false] HX1.out (by kernel_rfl) rfl (by simp [Value.oneCell']) ?_) | fail)
  have hrow := setRow_heap _ F _ #[.bool false, .slice none 0 0, .bool false] 113 (0, 0) HX1.out
  refine bodyPost_ret (v := .tuple #[.agg #[.bool false, .slice none 0 0, .bool false], .bool false]) ?_ rfl ⟨rfl, ?_⟩
  · have g0 := cell_of hrow 0
    have g1 := cell_of hrow 1
    have g2 := cell_of hrow 2
    simp at g0 g1 g2
    simp [results, Tryz.results65, go_sem, g0, g1, g2]
  · exact below_setRow HB1.out (by rw [HF.out]; exact Nat.le_refl _) _
set_option maxRecDepth 100000 in
set_option maxHeartbeats 2000000 in
theorem fields_1 (b p k : Nat) (hk : k < 256) (W : World) (hV : IsVoc W b) (hW : Wd W) (hp : W.cell? ⟨p, 0, none⟩ = some (.int .u8 (k : Int))) (hfk : fnK k = .func (.func 58) #[] #[]) (hh : hasK k = true) :
    Calls Tryz.prog 65 #[.map (some b), .pointer (some ⟨p, 0, none⟩)] W fun e W' => ∃ pp, e = .returned (.tuple #[.agg #[.bool false, .slice pp 0 0, .bool false], .bool true]) ∧ NumP W' W.heap.size (.slice pp 0 0) p [] ∧ Below W.heap.size W W' := by
  obtain ⟨w1, hw1⟩ : ∃ w1, w1 = W.alloc (.cells #[.bool false, .slice none 0 0, .bool false] 113) := ⟨_, rfl⟩
  obtain ⟨F, hF⟩ : ∃ F, F = W.heap.size := ⟨_, rfl⟩
  have B1 : Below W.heap.size W w1 := by rw [hw1]; exact below_alloc _ _
  have X1 : w1.heap[F]? = some (.cells #[.bool false, .slice none 0 0, .bool false] 113 (0, 0)) := by rw [hw1, hF]; exact heap_alloc_new _ _
  have c0 := cell_below hp B1
  have hwd := word_any k hk w1 (hW.on B1)
  have hlk := voc_look (hV.on B1) k
  have HW1 := keepH hw1
  have HF := keepH hF
  have HB1 := keepH B1
  have HX1 := keepH X1
  obtain ⟨s, hs⟩ : ∃ s, s = mkS (opW k) := ⟨_, rfl⟩
  rw [← hs] at hwd hlk
  clear hs hp hV hW hw1 hF B1 X1
  rw [hh, hfk] at hlk
  have HFL := keepH (fun w => fld_1 p w)
  clear hh hfk
  go_enter Tryz.func65, Tryz.ntmps65
  go_upto_region 1 with fail
  rw [← HW1.out, ← HF.out]
  go_wp2_with fail
  refine hwd.mono ?_
  rintro e w ⟨rfl, rfl⟩
  go_wp2_with fail
  refine (HFL.out _).mono ?_
  rintro e w2 ⟨v, rfl, hnum, B2⟩
  obtain ⟨pp, hpp⟩ := hnum.form
  replace hpp : v = .slice pp 0 0 := hpp
  subst hpp
  have X2 : w2.heap[F]? = _ := (B2.block F (Array.getElem?_eq_some_iff.1 HX1.out).1).trans HX1.out
  have HX2 := keepH X2
  have HNUM := keepH hnum
  have HB2 := keepH B2
  clear hnum B2 X2
  go_wp2_with (first | (refine wpList_store_row rfl 113 _ _ rfl F #[.bool false, .slice pp 0 0, .bool false] rfl rfl 113 #[.bool false, .slice none 0 0, .bool false] HX2.out (by kernel_rfl) rfl (by simp [Value.oneCell']) ?_) | fail)
  have hrow := setRow_heap _ F _ #[.bool false, .slice pp 0 0, .bool false] 113 (0, 0) HX2.out
  refine bodyPost_ret (v := .tuple #[.agg #[.bool false, .slice pp 0 0, .bool false], .bool true]) ?_ rfl ⟨pp, rfl, ?_, ?_⟩
  · have g0 := cell_of hrow 0
    have g1 := cell_of hrow 1
    have g2 := cell_of hrow 2
    simp at g0 g1 g2
    simp [results, Tryz.results65, go_sem, g0, g1, g2]
  · rcases HNUM.out with h | ⟨g, h1, h2, h3⟩
    · exact .inl h
    · refine .inr ⟨g, h1, Nat.le_trans HB1.out.size h2, ?_⟩
      have hl := (Array.getElem?_eq_some_iff.1 HX1.out).1
      rw [setRow_other _ _ _ _ (by omega)]
      exact h3
  · exact below_setRow (below_chain HB1.out HB2.out) (by rw [HF.out]; exact Nat.le_refl _) _
set_option maxRecDepth 100000 in
set_option maxHeartbeats 2000000 in
theorem fields_2 (b p k : Nat) (hk : k < 256) (W : World) (hV : IsVoc W b) (hW : Wd W) (hp : W.cell? ⟨p, 0, none⟩ = some (.int .u8 (k : Int))) (hfk : fnK k = .func (.func 59) #[] #[]) (hh : hasK k = true) :
    Calls Tryz.prog 65 #[.map (some b), .pointer (some ⟨p, 0, none⟩)] W fun e W' => ∃ pp, e = .returned (.tuple #[.agg #[.bool false, .slice pp 1 1, .bool false], .bool true]) ∧ NumP W' W.heap.size (.slice pp 1 1) p [1] ∧ Below W.heap.size W W' := by
  obtain ⟨w1, hw1⟩ : ∃ w1, w1 = W.alloc (.cells #[.bool false, .slice none 0 0, .bool false] 113) := ⟨_, rfl⟩
  obtain ⟨F, hF⟩ : ∃ F, F = W.heap.size := ⟨_, rfl⟩
  have B1 : Below W.heap.size W w1 := by rw [hw1]; exact below_alloc _ _
  have X1 : w1.heap[F]? = some (.cells #[.bool false, .slice none 0 0, .bool false] 113 (0, 0)) := by rw [hw1, hF]; exact heap_alloc_new _ _
  have c0 := cell_below hp B1
  have hwd := word_any k hk w1 (hW.on B1)
  have hlk := voc_look (hV.on B1) k
  have HW1 := keepH hw1
  have HF := keepH hF
  have HB1 := keepH B1
  have HX1 := keepH X1
  obtain ⟨s, hs⟩ : ∃ s, s = mkS (opW k) := ⟨_, rfl⟩
  rw [← hs] at hwd hlk
  clear hs hp hV hW hw1 hF B1 X1
  rw [hh, hfk] at hlk
  have HFL := keepH (fun w => fld_2 p w)
  clear hh hfk
  go_enter Tryz.func65, Tryz.ntmps65
  go_upto_region 1 with fail
  rw [← HW1.out, ← HF.out]
  go_wp2_with fail
  refine hwd.mono ?_
  rintro e w ⟨rfl, rfl⟩
  go_wp2_with fail
  refine (HFL.out _).mono ?_
  rintro e w2 ⟨v, rfl, hnum, B2⟩
  obtain ⟨pp, hpp⟩ := hnum.form
  replace hpp : v = .slice pp 1 1 := hpp
  subst hpp
  have X2 : w2.heap[F]? = _ := (B2.block F (Array.getElem?_eq_some_iff.1 HX1.out).1).trans HX1.out
  have HX2 := keepH X2
  have HNUM := keepH hnum
  have HB2 := keepH B2
  clear hnum B2 X2
  go_wp2_with (first | (refine wpList_store_row rfl 113 _ _ rfl F #[.bool false, .slice pp 1 1, .bool false] rfl rfl 113 #[.bool false, .slice none 0 0, .bool false] HX2.out (by kernel_rfl) rfl (by simp [Value.oneCell']) ?_) | fail)
  have hrow := setRow_heap _ F _ #[.bool false, .slice pp 1 1, .bool false] 113 (0, 0) HX2.out
  refine bodyPost_ret (v := .tuple #[.agg #[.bool false, .slice pp 1 1, .bool false], .bool true]) ?_ rfl ⟨pp, rfl, ?_, ?_⟩
  · have g0 := cell_of hrow 0
    have g1 := cell_of hrow 1
    have g2 := cell_of hrow 2
    simp at g0 g1 g2
    simp [results, Tryz.results65, go_sem, g0, g1, g2]
  · rcases HNUM.out with h | ⟨g, h1, h2, h3⟩
    · exact .inl h
    · refine .inr ⟨g, h1, Nat.le_trans HB1.out.size h2, ?_⟩
      have hl := (Array.getElem?_eq_some_iff.1 HX1.out).1
      rw [setRow_other _ _ _ _ (by omega)]
      exact h3
  · exact below_setRow (below_chain HB1.out HB2.out) (by rw [HF.out]; exact Nat.le_refl _) _
set_option maxRecDepth 100000 in
set_option maxHeartbeats 2000000 in
theorem fields_3 (b p k : Nat) (hk : k < 256) (W : World) (hV : IsVoc W b) (hW : Wd W) (hp : W.cell? ⟨p, 0, none⟩ = some (.int .u8 (k : Int))) (hfk : fnK k = .func (.func 60) #[] #[]) (hh : hasK k = true) :
    Calls Tryz.prog 65 #[.map (some b), .pointer (some ⟨p, 0, none⟩)] W fun e W' => ∃ pp, e = .returned (.tuple #[.agg #[.bool true, .slice pp 2 2, .bool false], .bool true]) ∧ NumP W' W.heap.size (.slice pp 2 2) p [9, 10] ∧ Below W.heap.size W W' := by
  obtain ⟨w1, hw1⟩ : ∃ w1, w1 = W.alloc (.cells #[.bool false, .slice none 0 0, .bool false] 113) := ⟨_, rfl⟩
  obtain ⟨F, hF⟩ : ∃ F, F = W.heap.size := ⟨_, rfl⟩
  have B1 : Below W.heap.size W w1 := by rw [hw1]; exact below_alloc _ _
  have X1 : w1.heap[F]? = some (.cells #[.bool false, .slice none 0 0, .bool false] 113 (0, 0)) := by rw [hw1, hF]; exact heap_alloc_new _ _
  have c0 := cell_below hp B1
  have hwd := word_any k hk w1 (hW.on B1)
  have hlk := voc_look (hV.on B1) k
  have HW1 := keepH hw1
  have HF := keepH hF
  have HB1 := keepH B1
  have HX1 := keepH X1
  obtain ⟨s, hs⟩ : ∃ s, s = mkS (opW k) := ⟨_, rfl⟩
  rw [← hs] at hwd hlk
  clear hs hp hV hW hw1 hF B1 X1
  rw [hh, hfk] at hlk
  have HFL := keepH (fun w => fld_3 p w)
  clear hh hfk
  go_enter Tryz.func65, Tryz.ntmps65
  go_upto_region 1 with fail
  rw [← HW1.out, ← HF.out]
  go_wp2_with fail
  refine hwd.mono ?_
  rintro e w ⟨rfl, rfl⟩
  go_wp2_with fail
  refine (HFL.out _).mono ?_
  rintro e w2 ⟨v, rfl, hnum, B2⟩
  obtain ⟨pp, hpp⟩ := hnum.form
  replace hpp : v = .slice pp 2 2 := hpp
  subst hpp
  have X2 : w2.heap[F]? = _ := (B2.block F (Array.getElem?_eq_some_iff.1 HX1.out).1).trans HX1.out
  have HX2 := keepH X2
  have HNUM := keepH hnum
  have HB2 := keepH B2
  clear hnum B2 X2
  go_wp2_with (first | (refine wpList_store_row rfl 113 _ _ rfl F #[.bool true, .slice pp 2 2, .bool false] rfl rfl 113 #[.bool false, .slice none 0 0, .bool false] HX2.out (by kernel_rfl) rfl (by simp [Value.oneCell']) ?_) | fail)
  have hrow := setRow_heap _ F _ #[.bool true, .slice pp 2 2, .bool false] 113 (0, 0) HX2.out
  refine bodyPost_ret (v := .tuple #[.agg #[.bool true, .slice pp 2 2, .bool false], .bool true]) ?_ rfl ⟨pp, rfl, ?_, ?_⟩
  · have g0 := cell_of hrow 0
    have g1 := cell_of hrow 1
    have g2 := cell_of hrow 2
    simp at g0 g1 g2
    simp [results, Tryz.results65, go_sem, g0, g1, g2]
  · rcases HNUM.out with h | ⟨g, h1, h2, h3⟩
    · exact .inl h
    · refine .inr ⟨g, h1, Nat.le_trans HB1.out.size h2, ?_⟩
      have hl := (Array.getElem?_eq_some_iff.1 HX1.out).1
      rw [setRow_other _ _ _ _ (by omega)]
      exact h3
  · exact below_setRow (below_chain HB1.out HB2.out) (by rw [HF.out]; exact Nat.le_refl _) _
set_option maxRecDepth 100000 in
set_option maxHeartbeats 2000000 in
theorem fields_4 (b p k : Nat) (hk : k < 256) (W : World) (hV : IsVoc W b) (hW : Wd W) (hp : W.cell? ⟨p, 0, none⟩ = some (.int .u8 (k : Int))) (hfk : fnK k = .func (.func 61) #[] #[]) (hh : hasK k = true) :
    Calls Tryz.prog 65 #[.map (some b), .pointer (some ⟨p, 0, none⟩)] W fun e W' => ∃ pp, e = .returned (.tuple #[.agg #[.bool false, .slice pp 2 2, .bool false], .bool true]) ∧ NumP W' W.heap.size (.slice pp 2 2) p [1, 2] ∧ Below W.heap.size W W' := by
  obtain ⟨w1, hw1⟩ : ∃ w1, w1 = W.alloc (.cells #[.bool false, .slice none 0 0, .bool false] 113) := ⟨_, rfl⟩
  obtain ⟨F, hF⟩ : ∃ F, F = W.heap.size := ⟨_, rfl⟩
  have B1 : Below W.heap.size W w1 := by rw [hw1]; exact below_alloc _ _
  have X1 : w1.heap[F]? = some (.cells #[.bool false, .slice none 0 0, .bool false] 113 (0, 0)) := by rw [hw1, hF]; exact heap_alloc_new _ _
  have c0 := cell_below hp B1
  have hwd := word_any k hk w1 (hW.on B1)
  have hlk := voc_look (hV.on B1) k
  have HW1 := keepH hw1
  have HF := keepH hF
  have HB1 := keepH B1
  have HX1 := keepH X1
  obtain ⟨s, hs⟩ : ∃ s, s = mkS (opW k) := ⟨_, rfl⟩
  rw [← hs] at hwd hlk
  clear hs hp hV hW hw1 hF B1 X1
  rw [hh, hfk] at hlk
  have HFL := keepH (fun w => fld_4 p w)
  clear hh hfk
  go_enter Tryz.func65, Tryz.ntmps65
  go_upto_region 1 with fail
  rw [← HW1.out, ← HF.out]
  go_wp2_with fail
  refine hwd.mono ?_
  rintro e w ⟨rfl, rfl⟩
  go_wp2_with fail
  refine (HFL.out _).mono ?_
  rintro e w2 ⟨v, rfl, hnum, B2⟩
  obtain ⟨pp, hpp⟩ := hnum.form
  replace hpp : v = .slice pp 2 2 := hpp
  subst hpp
  have X2 : w2.heap[F]? = _ := (B2.block F (Array.getElem?_eq_some_iff.1 HX1.out).1).trans HX1.out
  have HX2 := keepH X2
  have HNUM := keepH hnum
  have HB2 := keepH B2
  clear hnum B2 X2
  go_wp2_with (first | (refine wpList_store_row rfl 113 _ _ rfl F #[.bool false, .slice pp 2 2, .bool false] rfl rfl 113 #[.bool false, .slice none 0 0, .bool false] HX2.out (by kernel_rfl) rfl (by simp [Value.oneCell']) ?_) | fail)
  have hrow := setRow_heap _ F _ #[.bool false, .slice pp 2 2, .bool false] 113 (0, 0) HX2.out
  refine bodyPost_ret (v := .tuple #[.agg #[.bool false, .slice pp 2 2, .bool false], .bool true]) ?_ rfl ⟨pp, rfl, ?_, ?_⟩
  · have g0 := cell_of hrow 0
    have g1 := cell_of hrow 1
    have g2 := cell_of hrow 2
    simp at g0 g1 g2
    simp [results, Tryz.results65, go_sem, g0, g1, g2]
  · rcases HNUM.out with h | ⟨g, h1, h2, h3⟩
    · exact .inl h
    · refine .inr ⟨g, h1, Nat.le_trans HB1.out.size h2, ?_⟩
      have hl := (Array.getElem?_eq_some_iff.1 HX1.out).1
      rw [setRow_other _ _ _ _ (by omega)]
      exact h3
  · exact below_setRow (below_chain HB1.out HB2.out) (by rw [HF.out]; exact Nat.le_refl _) _
set_option maxRecDepth 100000 in
set_option maxHeartbeats 2000000 in
theorem fields_5 (b p k : Nat) (hk : k < 256) (W : World) (hV : IsVoc W b) (hW : Wd W) (hp : W.cell? ⟨p, 0, none⟩ = some (.int .u8 (k : Int))) (hfk : fnK k = .func (.func 62) #[] #[]) (hh : hasK k = true) :
    Calls Tryz.prog 65 #[.map (some b), .pointer (some ⟨p, 0, none⟩)] W fun e W' => ∃ pp, e = .returned (.tuple #[.agg #[.bool false, .slice pp 3 3, .bool false], .bool true]) ∧ NumP W' W.heap.size (.slice pp 3 3) p [1, 3, 2] ∧ Below W.heap.size W W' := by
  obtain ⟨w1, hw1⟩ : ∃ w1, w1 = W.alloc (.cells #[.bool false, .slice none 0 0, .bool false] 113) := ⟨_, rfl⟩
  obtain ⟨F, hF⟩ : ∃ F, F = W.heap.size := ⟨_, rfl⟩
  have B1 : Below W.heap.size W w1 := by rw [hw1]; exact below_alloc _ _
  have X1 : w1.heap[F]? = some (.cells #[.bool false, .slice none 0 0, .bool false] 113 (0, 0)) := by rw [hw1, hF]; exact heap_alloc_new _ _
  have c0 := cell_below hp B1
  have hwd := word_any k hk w1 (hW.on B1)
  have hlk := voc_look (hV.on B1) k
  have HW1 := keepH hw1
  have HF := keepH hF
  have HB1 := keepH B1
  have HX1 := keepH X1
  obtain ⟨s, hs⟩ : ∃ s, s = mkS (opW k) := ⟨_, rfl⟩
  rw [← hs] at hwd hlk
  clear hs hp hV hW hw1 hF B1 X1
  rw [hh, hfk] at hlk
  have HFL := keepH (fun w => fld_5 p w)
  clear hh hfk
  go_enter Tryz.func65, Tryz.ntmps65
  go_upto_region 1 with fail
  rw [← HW1.out, ← HF.out]
  go_wp2_with fail
  refine hwd.mono ?_
  rintro e w ⟨rfl, rfl⟩
  go_wp2_with fail
  refine (HFL.out _).mono ?_
  rintro e w2 ⟨v, rfl, hnum, B2⟩
  obtain ⟨pp, hpp⟩ := hnum.form
  replace hpp : v = .slice pp 3 3 := hpp
  subst hpp
  have X2 : w2.heap[F]? = _ := (B2.block F (Array.getElem?_eq_some_iff.1 HX1.out).1).trans HX1.out
  have HX2 := keepH X2
  have HNUM := keepH hnum
  have HB2 := keepH B2
  clear hnum B2 X2
  go_wp2_with (first | (refine wpList_store_row rfl 113 _ _ rfl F #[.bool false, .slice pp 3 3, .bool false] rfl rfl 113 #[.bool false, .slice none 0 0, .bool false] HX2.out (by kernel_rfl) rfl (by simp [Value.oneCell']) ?_) | fail)
  have hrow := setRow_heap _ F _ #[.bool false, .slice pp 3 3, .bool false] 113 (0, 0) HX2.out
  refine bodyPost_ret (v := .tuple #[.agg #[.bool false, .slice pp 3 3, .bool false], .bool true]) ?_ rfl ⟨pp, rfl, ?_, ?_⟩
  · have g0 := cell_of hrow 0
    have g1 := cell_of hrow 1
    have g2 := cell_of hrow 2
    simp at g0 g1 g2
    simp [results, Tryz.results65, go_sem, g0, g1, g2]
  · rcases HNUM.out with h | ⟨g, h1, h2, h3⟩
    · exact .inl h
    · refine .inr ⟨g, h1, Nat.le_trans HB1.out.size h2, ?_⟩
      have hl := (Array.getElem?_eq_some_iff.1 HX1.out).1
      rw [setRow_other _ _ _ _ (by omega)]
      exact h3
  · exact below_setRow (below_chain HB1.out HB2.out) (by rw [HF.out]; exact Nat.le_refl _) _
set_option maxRecDepth 100000 in
set_option maxHeartbeats 2000000 in
theorem fields_6 (b p k : Nat) (hk : k < 256) (W : World) (hV : IsVoc W b) (hW : Wd W) (hp : W.cell? ⟨p, 0, none⟩ = some (.int .u8 (k : Int))) (hfk : fnK k = .func (.func 63) #[] #[]) (hh : hasK k = true) :
    Calls Tryz.prog 65 #[.map (some b), .pointer (some ⟨p, 0, none⟩)] W fun e W' => ∃ pp, e = .returned (.tuple #[.agg #[.bool true, .slice pp 0 0, .bool false], .bool true]) ∧ NumP W' W.heap.size (.slice pp 0 0) p [] ∧ Below W.heap.size W W' := by
  obtain ⟨w1, hw1⟩ : ∃ w1, w1 = W.alloc (.cells #[.bool false, .slice none 0 0, .bool false] 113) := ⟨_, rfl⟩
  obtain ⟨F, hF⟩ : ∃ F, F = W.heap.size := ⟨_, rfl⟩
  have B1 : Below W.heap.size W w1 := by rw [hw1]; exact below_alloc _ _
  have X1 : w1.heap[F]? = some (.cells #[.bool false, .slice none 0 0, .bool false] 113 (0, 0)) := by rw [hw1, hF]; exact heap_alloc_new _ _
  have c0 := cell_below hp B1
  have hwd := word_any k hk w1 (hW.on B1)
  have hlk := voc_look (hV.on B1) k
  have HW1 := keepH hw1
  have HF := keepH hF
  have HB1 := keepH B1
  have HX1 := keepH X1
  obtain ⟨s, hs⟩ : ∃ s, s = mkS (opW k) := ⟨_, rfl⟩
  rw [← hs] at hwd hlk
  clear hs hp hV hW hw1 hF B1 X1
  rw [hh, hfk] at hlk
  have HFL := keepH (fun w => fld_6 p w)
  clear hh hfk
  go_enter Tryz.func65, Tryz.ntmps65
  go_upto_region 1 with fail
  rw [← HW1.out, ← HF.out]
  go_wp2_with fail
  refine hwd.mono ?_
  rintro e w ⟨rfl, rfl⟩
  go_wp2_with fail
  refine (HFL.out _).mono ?_
  rintro e w2 ⟨v, rfl, hnum, B2⟩
  obtain ⟨pp, hpp⟩ := hnum.form
  replace hpp : v = .slice pp 0 0 := hpp
  subst hpp
  have X2 : w2.heap[F]? = _ := (B2.block F (Array.getElem?_eq_some_iff.1 HX1.out).1).trans HX1.out
  have HX2 := keepH X2
  have HNUM := keepH hnum
  have HB2 := keepH B2
  clear hnum B2 X2
  go_wp2_with (first | (refine wpList_store_row rfl 113 _ _ rfl F #[.bool true, .slice pp 0 0, .bool false] rfl rfl 113 #[.bool false, .slice none 0 0, .bool false] HX2.out (by kernel_rfl) rfl (by simp [Value.oneCell']) ?_) | fail)
  have hrow := setRow_heap _ F _ #[.bool true, .slice pp 0 0, .bool false] 113 (0, 0) HX2.out
  refine bodyPost_ret (v := .tuple #[.agg #[.bool true, .slice pp 0 0, .bool false], .bool true]) ?_ rfl ⟨pp, rfl, ?_, ?_⟩
  · have g0 := cell_of hrow 0
    have g1 := cell_of hrow 1
    have g2 := cell_of hrow 2
    simp at g0 g1 g2
    simp [results, Tryz.results65, go_sem, g0, g1, g2]
  · rcases HNUM.out with h | ⟨g, h1, h2, h3⟩
    · exact .inl h
    · refine .inr ⟨g, h1, Nat.le_trans HB1.out.size h2, ?_⟩
      have hl := (Array.getElem?_eq_some_iff.1 HX1.out).1
      rw [setRow_other _ _ _ _ (by omega)]
      exact h3
  · exact below_setRow (below_chain HB1.out HB2.out) (by rw [HF.out]; exact Nat.le_refl _) _
set_option maxRecDepth 100000 in
set_option maxHeartbeats 2000000 in
theorem fields_7 (b p k : Nat) (hk : k < 256) (W : World) (hV : IsVoc W b) (hW : Wd W) (hp : W.cell? ⟨p, 0, none⟩ = some (.int .u8 (k : Int))) (hfk : fnK k = .func (.func 64) #[] #[]) (hh : hasK k = true) :
    Calls Tryz.prog 65 #[.map (some b), .pointer (some ⟨p, 0, none⟩)] W fun e W' => ∃ pp, e = .returned (.tuple #[.agg #[.bool true, .slice pp 0 0, .bool true], .bool true]) ∧ NumP W' W.heap.size (.slice pp 0 0) p [] ∧ Below W.heap.size W W' := by
  obtain ⟨w1, hw1⟩ : ∃ w1, w1 = W.alloc (.cells #[.bool false, .slice none 0 0, .bool false] 113) := ⟨_, rfl⟩
  obtain ⟨F, hF⟩ : ∃ F, F = W.heap.size := ⟨_, rfl⟩
  have B1 : Below W.heap.size W w1 := by rw [hw1]; exact below_alloc _ _
  have X1 : w1.heap[F]? = some (.cells #[.bool false, .slice none 0 0, .bool false] 113 (0, 0)) := by rw [hw1, hF]; exact heap_alloc_new _ _
  have c0 := cell_below hp B1
  have hwd := word_any k hk w1 (hW.on B1)
  have hlk := voc_look (hV.on B1) k
  have HW1 := keepH hw1
  have HF := keepH hF
  have HB1 := keepH B1
  have HX1 := keepH X1
  obtain ⟨s, hs⟩ : ∃ s, s = mkS (opW k) := ⟨_, rfl⟩
  rw [← hs] at hwd hlk
  clear hs hp hV hW hw1 hF B1 X1
  rw [hh, hfk] at hlk
  have HFL := keepH (fun w => fld_7 p w)
  clear hh hfk
  go_enter Tryz.func65, Tryz.ntmps65
  go_upto_region 1 with fail
  rw [← HW1.out, ← HF.out]
  go_wp2_with fail
  refine hwd.mono ?_
  rintro e w ⟨rfl, rfl⟩
  go_wp2_with fail
  refine (HFL.out _).mono ?_
  rintro e w2 ⟨v, rfl, hnum, B2⟩
  obtain ⟨pp, hpp⟩ := hnum.form
  replace hpp : v = .slice pp 0 0 := hpp
  subst hpp
  have X2 : w2.heap[F]? = _ := (B2.block F (Array.getElem?_eq_some_iff.1 HX1.out).1).trans HX1.out
  have HX2 := keepH X2
  have HNUM := keepH hnum
  have HB2 := keepH B2
  clear hnum B2 X2
  go_wp2_with (first | (refine wpList_store_row rfl 113 _ _ rfl F #[.bool true, .slice pp 0 0, .bool true] rfl rfl 113 #[.bool false, .slice none 0 0, .bool false] HX2.out (by kernel_rfl) rfl (by simp [Value.oneCell']) ?_) | fail)
  have hrow := setRow_heap _ F _ #[.bool true, .slice pp 0 0, .bool true] 113 (0, 0) HX2.out
  refine bodyPost_ret (v := .tuple #[.agg #[.bool true, .slice pp 0 0, .bool true], .bool true]) ?_ rfl ⟨pp, rfl, ?_, ?_⟩
  · have g0 := cell_of hrow 0
    have g1 := cell_of hrow 1
    have g2 := cell_of hrow 2
    simp at g0 g1 g2
    simp [results, Tryz.results65, go_sem, g0, g1, g2]
  · rcases HNUM.out with h | ⟨g, h1, h2, h3⟩
    · exact .inl h
    · refine .inr ⟨g, h1, Nat.le_trans HB1.out.size h2, ?_⟩
      have hl := (Array.getElem?_eq_some_iff.1 HX1.out).1
      rw [setRow_other _ _ _ _ (by omega)]
      exact h3
  · exact below_setRow (below_chain HB1.out HB2.out) (by rw [HF.out]; exact Nat.le_refl _) _
theorem fields_any (b p k : Nat) (hk : k < 256) (W : World) (hV : IsVoc W b) (hW : Wd W) (hp : W.cell? ⟨p, 0, none⟩ = some (.int .u8 (k : Int))) : ∀ hh : hasK k = true,
    Calls Tryz.prog 65 #[.map (some b), .pointer (some ⟨p, 0, none⟩)] W fun e W' => ∃ pp, e = .returned (.tuple #[.agg #[.bool (hndK k), .slice pp (numK k).length (numK k).length, .bool (kysK k)], .bool true]) ∧ NumP W' W.heap.size (.slice pp (numK k).length (numK k).length) p (numK k) ∧ Below W.heap.size W W' := by
  intro hh
  have : k = 1 ∨ k = 2 ∨ k = 3 ∨ k = 4 ∨ k = 5 ∨ k = 6 ∨ k = 7 ∨ k = 8 ∨ k = 9 ∨ k = 10 := by simp [hasK] at hh; omega
  rcases this with rfl | rfl | rfl | rfl | rfl | rfl | rfl | rfl | rfl | rfl
  · exact fields_2 b p 1 hk W hV hW hp rfl rfl
  · exact fields_4 b p 2 hk W hV hW hp rfl rfl
  · exact fields_2 b p 3 hk W hV hW hp rfl rfl
  · exact fields_5 b p 4 hk W hV hW hp rfl rfl
  · exact fields_1 b p 5 hk W hV hW hp rfl rfl
  · exact fields_6 b p 6 hk W hV hW hp rfl rfl
  · exact fields_7 b p 7 hk W hV hW hp rfl rfl
  · exact fields_3 b p 8 hk W hV hW hp rfl rfl
  · exact fields_3 b p 9 hk W hV hW hp rfl rfl
  · exact fields_1 b p 10 hk W hV hW hp rfl rfl
end Go.Proofs.YtmmaniolaljjlaaGreatDoor
