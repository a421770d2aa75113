/- What is wrong with an operation, by the program. (mkSce.py) -/
import Derived.Test.YtmmaniolaljjlaaGreatDoorB5Scd
import Derived.Laws.Tables
import Derived.Test.YtmmaniolaljjlaaGreatDoorB4Scb
namespace Go.Proofs.YtmmaniolaljjlaaGreatDoor
open Go.RowKit Go.Shelf
set_option linter.unusedVariables false

def zr (row : Array Value) (ns : List Nat) : Array Value := ns.foldl (fun r i => r.setIfInBounds i (.int .u64 0)) row
def zk (k i x : Nat) : Nat := if i ∈ numK k then 0 else x
theorem zr_next (row : Array Value) {ns : List Nat} {i m : Nat} (h : ns[i]? = some m) : zr row (ns.take (i + 1)) = (zr row (ns.take i)).setIfInBounds m (.int .u64 0) := by
  rw [List.take_add_one, h]
  simp [zr]
theorem zr_size (ns : List Nat) : ∀ row, (zr row ns).size = row.size := by
  induction ns with
  | nil => intro row; rfl
  | cons a r ih => intro row; show (zr (row.setIfInBounds a _) r).size = _; rw [ih]; simp
theorem numK_lt (k : Nat) : ∀ m ∈ numK k, m < 11 := by
  unfold numK
  split <;> simp
theorem numK_len (k : Nat) : (numK k).length ≤ 3 := by
  unfold numK
  split <;> simp
theorem zr_op (k key val old hnd : Nat) (set : Bool) (rt ri : Int) (vk : Value) (lo hi : Nat) : zr (opR k key val old hnd set rt ri vk lo hi) (numK k) = opR k (zk k 1 key) (zk k 2 val) (zk k 3 old) hnd set rt ri vk (zk k 9 lo) (zk k 10 hi) := by
  unfold zk numK
  split <;> simp [zr]
theorem zk_u {k i x : Nat} (h : isU x) : isU (zk k i x) := by
  unfold zk
  split
  · unfold isU; omega
  · exact h
def faultN (k key val old hnd : Nat) (set : Bool) (rt ri : Int) (kp : Option Addr) (n kc lo hi : Nat) : Nat :=
  if hasK k = false then 160
  else if k = 7 ∧ 1024 < n then 6
  else if hndK k = true ∧ rhB hnd set rt ri = false then 52
  else if blB (zk k 1 key) (zk k 2 val) (zk k 3 old) (if hndK k = true then 0 else hnd) (zk k 9 lo) (zk k 10 hi) (if hndK k = true then false else set) (if hndK k = true then 0 else rt) (if hndK k = true then 0 else ri) (if kysK k = true then 0 else n) = true then 0 else 52
/-- what lies in memory while an operation is looked at -/
structure FS (W : World) (P F : Nat) (row fr : Array Value) (pv : Value) (ns : List Nat) (wr : World) : Prop where
  box : wr.heap[P]? = some (.cells row 28 (0, 0))
  fld : wr.heap[F]? = some (.cells fr 113 (0, 0))
  num : (ns = [] ∧ pv = .slice none 0 0) ∨ ∃ g, pv = .slice (some ⟨g, 0, none⟩) ns.length ns.length ∧ g ≠ P ∧ wr.heap[g]? = some (.cells (ns.map fun n => Value.pointer (some ⟨P, n, none⟩)).toArray 115 (0, 0))
  bel : Below W.heap.size W wr
  lo : W.heap.size ≤ P
  ne : F ≠ P
theorem FS.on {W : World} {P F : Nat} {row fr : Array Value} {pv : Value} {ns : List Nat} {wr X : World} (h : FS W P F row fr pv ns wr) (hb : Below wr.heap.size wr X) : FS W P F row fr pv ns X := by
  refine ⟨heap_below h.box hb, heap_below h.fld hb, ?_, below_chain h.bel hb, h.lo, h.ne⟩
  rcases h.num with x | ⟨g, h1, h2, h3⟩
  · exact .inl x
  · exact .inr ⟨g, h1, h2, heap_below h3 hb⟩
theorem FS.set {W : World} {P F : Nat} {row fr : Array Value} {pv : Value} {ns : List Nat} {wr : World} (h : FS W P F row fr pv ns wr) (i : Nat) (v : Value) : FS W P F (row.setIfInBounds i v) fr pv ns (wr.setCell ⟨P, i, none⟩ v) := by
  refine ⟨set_of h.box i v, other_of h.fld h.ne v, ?_, h.bel.setCell h.lo _, h.lo, h.ne⟩
  rcases h.num with x | ⟨g, h1, h2, h3⟩
  · exact .inl x
  · exact .inr ⟨g, h1, h2, other_of h3 h2 v⟩
theorem FS.ptr {W : World} {P F : Nat} {row fr : Array Value} {pp : Option Addr} {m : Nat} {ns : List Nat} {wr : World} (h : FS W P F row fr (.slice pp m m) ns wr) {i o : Nat} (ho : ns[i]? = some o) : ∃ g, pp = some ⟨g, 0, none⟩ ∧ wr.cell? ⟨g, i, none⟩ = some (.pointer (some ⟨P, o, none⟩)) := by
  rcases h.num with ⟨rfl, _⟩ | ⟨g, h1, h2, h3⟩
  · simp at ho
  · refine ⟨g, by injection h1, ?_⟩
    rw [cell_of h3 i]
    simp [ho]
theorem FS.cells {W : World} {P F : Nat} {row fr : Array Value} {pv : Value} {ns : List Nat} {wr : World} (h : FS W P F row fr pv ns wr) {j : Nat} {v : Value} (hv : row[j]? = some v) : wr.cell? ⟨P, j, none⟩ = some v := (cell_of h.box j).trans hv

set_option maxRecDepth 100000 in
set_option maxHeartbeats 8000000 in
theorem fault_any (b : Nat) (k key val old hnd : Nat) (set : Bool) (rt ri : Int) (kp : Option Addr) (n kc lo hi : Nat) (hk : k < 256) (h1 : isU key) (h2 : isU val) (h3 : isU old) (h4 : isU hnd) (h5 : isU lo) (h6 : isU hi) (ha : isI rt) (hb : isI ri) (W : World) (hV : IsVoc W b) (hW : Wd W) :
    Calls Tryz.prog 24 #[.map (some b), .agg (opR k key val old hnd set rt ri (.slice kp n kc) lo hi)] W fun e W' => e = .returned (.int .i64 (faultN k key val old hnd set rt ri kp n kc lo hi : Int)) ∧ Below W.heap.size W W' := by
  obtain ⟨w1, hw1⟩ : ∃ w1, w1 = W.alloc (.cells (opR k key val old hnd set rt ri (.slice kp n kc) lo hi) 28) := ⟨_, rfl⟩
  obtain ⟨P, hP⟩ : ∃ P, P = W.heap.size := ⟨_, rfl⟩
  have B1 : Below W.heap.size W w1 := by rw [hw1]; exact below_alloc _ _
  have X1 : w1.heap[P]? = some (.cells (opR k key val old hnd set rt ri (.slice kp n kc) lo hi) 28 (0, 0)) := by rw [hw1, hP]; exact heap_alloc_new _ _
  have hno := fields_no b P k hk w1 (hV.on B1) (hW.on B1) (cell_of X1 0)
  have hye := fields_any b P k hk w1 (hV.on B1) (hW.on B1) (cell_of X1 0)
  have htm := fun w => too_any k key val old hnd set rt ri kp n kc lo hi w
  have hrh := fun w => rh_any k key val old hnd set rt ri (.slice kp n kc) lo hi ha hb w
  have i0 : isI 0 := ⟨by omega, by omega⟩
  have u0 : isU 0 := by unfold isU; omega
  have hbl0 := fun w => blank_any k (zk k 1 key) (zk k 2 val) (zk k 3 old) hnd set rt ri kp n kc (zk k 9 lo) (zk k 10 hi) (zk_u h1) (zk_u h2) (zk_u h3) h4 (zk_u h5) (zk_u h6) ha hb w
  have hbl1 := fun w => blank_any k (zk k 1 key) (zk k 2 val) (zk k 3 old) 0 false 0 0 kp n kc (zk k 9 lo) (zk k 10 hi) (zk_u h1) (zk_u h2) (zk_u h3) u0 (zk_u h5) (zk_u h6) i0 i0 w
  have hbl2 := fun w => blank_any k (zk k 1 key) (zk k 2 val) (zk k 3 old) 0 false 0 0 none 0 0 (zk k 9 lo) (zk k 10 hi) (zk_u h1) (zk_u h2) (zk_u h3) u0 (zk_u h5) (zk_u h6) i0 i0 w
  have HZ0 := keepH (zr_op k key val old hnd set rt ri (.slice kp n kc) lo hi)
  have HZ1 := keepH (zr_op k key val old 0 false 0 0 (.slice kp n kc) lo hi)
  have HNO := keepH hno
  have HYE := keepH hye
  have HTM := keepH htm
  have HRH := keepH hrh
  have HBL0 := keepH hbl0
  have HBL1 := keepH hbl1
  have HBL2 := keepH hbl2
  have HW1 := keepH hw1
  have HP := keepH hP
  have HB1 := keepH B1
  have HX1 := keepH X1
  have HLT := keepH (numK_lt k)
  have HLE := keepH (numK_len k)
  obtain ⟨E, hE⟩ : ∃ E, E = faultN k key val old hnd set rt ri kp n kc lo hi := ⟨_, rfl⟩
  rw [← hE]
  have HE := keepH hE
  clear hno hye htm hrh hbl0 hbl1 hbl2 hw1 hP B1 X1 hV hW hE h1 h2 h3 h4 h5 h6 ha hb hk i0 u0
  by_cases hh : hasK k = true
  · have HHK := keepH hh
    clear hh
    go_enter Tryz.func24, Tryz.ntmps24
    go_upto_region 1 with fail
    rw [← HW1.out, ← HP.out]
    go_wp2_with fail
    refine (HYE.out HHK.out).mono ?_
    rintro e w2 ⟨pp, rfl, hnum, B2⟩
    obtain ⟨m, hm⟩ : ∃ m, m = (numK k).length := ⟨_, rfl⟩
    rw [← hm] at hnum ⊢
    obtain ⟨hd, hhd⟩ : ∃ d, d = hndK k := ⟨_, rfl⟩
    obtain ⟨kb, hkb⟩ : ∃ d, d = kysK k := ⟨_, rfl⟩
    rw [← hhd, ← hkb]
    obtain ⟨w3, hw3⟩ : ∃ w3, w3 = w2.alloc (.cells #[.bool hd, .slice pp m m, .bool kb] 113) := ⟨_, rfl⟩
    obtain ⟨F, hF⟩ : ∃ F, F = w2.heap.size := ⟨_, rfl⟩
    have B3 : Below w2.heap.size w2 w3 := by rw [hw3]; exact below_alloc _ _
    have S3 : FS W P F (opR k key val old hnd set rt ri (.slice kp n kc) lo hi) #[.bool hd, .slice pp m m, .bool kb] (.slice pp m m) (numK k) w3 := by
      have hx := (Array.getElem?_eq_some_iff.1 HX1.out).1
      refine ⟨heap_below (heap_below HX1.out B2) B3, by rw [hw3, hF]; exact heap_alloc_new _ _, ?_, below_chain (below_chain HB1.out B2) B3, by rw [HP.out]; exact Nat.le_refl _, ?_⟩
      · rcases hnum with h | ⟨g, q1, q2, q3⟩
        · exact .inl h
        · exact .inr ⟨g, q1, by omega, heap_below q3 B3⟩
      · have := B2.size
        omega
    have HS3 := keepH S3
    have HW3 := keepH hw3
    have HFF := keepH hF
    have HM := keepH hm
    have HHD := keepH hhd
    have HKB := keepH hkb
    have hm3 : m ≤ 3 := by rw [hm]; exact HLE.out
    clear hnum B2 B3 S3 hw3 hF hm hhd hkb
    go_upto_region 2 with fail
    rw [← HW3.out, ← HFF.out]
    have hs3 := HS3.out
    have c0 : w3.cell? ⟨P, 0, none⟩ = _ := hs3.cells rfl
    have c1 : w3.cell? ⟨P, 1, none⟩ = _ := hs3.cells rfl
    have c2 : w3.cell? ⟨P, 2, none⟩ = _ := hs3.cells rfl
    have c3 : w3.cell? ⟨P, 3, none⟩ = _ := hs3.cells rfl
    have c4 : w3.cell? ⟨P, 4, none⟩ = _ := hs3.cells rfl
    have c5 : w3.cell? ⟨P, 5, none⟩ = _ := hs3.cells rfl
    have c6 : w3.cell? ⟨P, 6, none⟩ = _ := hs3.cells rfl
    have c7 : w3.cell? ⟨P, 7, none⟩ = _ := hs3.cells rfl
    have c8 : w3.cell? ⟨P, 8, none⟩ = _ := hs3.cells rfl
    have c9 : w3.cell? ⟨P, 9, none⟩ = _ := hs3.cells rfl
    have c10 : w3.cell? ⟨P, 10, none⟩ = _ := hs3.cells rfl
    clear hs3
    go_wp2_with fail
    refine (HTM.out w3).mono ?_
    rintro e w4 ⟨rfl, B4⟩
    have HS4 := keepH (HS3.out.on B4)
    clear B4 c0 c1 c2 c3 c4 c5 c6 c7 c8 c9 c10
    by_cases ht : k = 7 ∧ 1024 < n
    · have g : decide (k = 7 ∧ 1024 < n) = true := by simpa using ht
      rw [g]
      have HEE : Hid (E = 6) := keepH (by rw [HE.out]; unfold faultN; rw [if_neg (by rw [HHK.out]; simp), if_pos ht])
      clear g ht
      go_wp2_with fail
      go_ret
      exact ⟨by rw [HEE.out]; rfl, HS4.out.bel⟩
    have g : decide (k = 7 ∧ 1024 < n) = false := by simpa using ht
    rw [g]
    have HT := keepH ht
    clear g ht
    have f0 : w4.cell? ⟨F, 0, none⟩ = some (.bool hd) := cell_of HS4.out.fld 0
    have f1 : w4.cell? ⟨F, 1, none⟩ = some (.slice pp m m) := cell_of HS4.out.fld 1
    have f2 : w4.cell? ⟨F, 2, none⟩ = some (.bool kb) := cell_of HS4.out.fld 2
    cases hd with
    | false =>
      have hkb0 : kb = false := by
        rw [HKB.out]
        have := HHD.out
        unfold hndK at this
        unfold kysK
        simp at this ⊢
        omega
      subst hkb0
      go_upto_region 10 with fail
      clear f0 f1 f2
      have f1 : w4.cell? ⟨F, 1, none⟩ = some (.slice pp m m) := cell_of HS4.out.fld 1
      go_wp2_with fail
      clear f1
      go_loopw [36] (fun s wr => ∃ i : Nat, i ≤ m ∧ s = .int .i64 (i : Int) ∧ Hid (FS W P F (zr (opR k key val old hnd set rt ri (.slice kp n kc) lo hi) ((numK k).take i)) #[.bool false, .slice pp m m, .bool false] (.slice pp m m) (numK k) wr)) (fun s _ => m - (intOf s).toNat)
      case atStart => exact ⟨0, by omega, rfl, keepH (by simpa [zr] using HS4.out)⟩
      case round =>
        obtain ⟨i, him, rfl, HR⟩ := hrel
        by_cases hlt : i < m
        · have t1 : (i : Int) < (m : Int) := by omega
          have t0 : (0 : Int) ≤ (i : Int) := by omega
          obtain ⟨o, ho⟩ : ∃ o, (numK k)[i]? = some o := ⟨(numK k)[i]'(by have := HM.out; omega), List.getElem?_eq_getElem _⟩
          obtain ⟨g, rfl, p0⟩ := HR.out.ptr ho
          have ho11 := HLT.out o (List.mem_of_getElem? ho)
          have hsz : o < (zr (opR k key val old hnd set rt ri (.slice kp n kc) lo hi) ((numK k).take i)).size := by rw [zr_size]; exact ho11
          obtain ⟨u, hu⟩ : ∃ u, (zr (opR k key val old hnd set rt ri (.slice kp n kc) lo hi) ((numK k).take i))[o]? = some u := ⟨_, Array.getElem?_eq_getElem hsz⟩
          have p1 : wr.cell? ⟨P, o, none⟩ = some u := HR.out.cells hu
          have p2 : wr.frozen? ⟨P, o, none⟩ = false := free_of HR.out.box o
          have hst := HR.out.set o (.int .u64 0)
          rw [← zr_next _ ho] at hst
          have HST := keepH hst
          clear ho hu hsz hst
          go_wp2_with fail
          go_roundw
          case rel => exact ⟨i + 1, by omega, by first | rfl | go_num, HST⟩
          case measure => simp [intOf]; omega
        · obtain rfl : i = m := by omega
          have t1 : ¬ (i : Int) < (i : Int) := by omega
          have hf := HR.out
          rw [HM.out, List.take_length, HZ0.out, ← HM.out] at hf
          have f2 : wr.cell? ⟨F, 2, none⟩ = some (.bool false) := cell_of hf.fld 2
          have HG := keepH hf
          go_upto_region 17 with fail
          have c0 : wr.cell? ⟨P, 0, none⟩ = _ := HG.out.cells rfl
          have c1 : wr.cell? ⟨P, 1, none⟩ = _ := HG.out.cells rfl
          have c2 : wr.cell? ⟨P, 2, none⟩ = _ := HG.out.cells rfl
          have c3 : wr.cell? ⟨P, 3, none⟩ = _ := HG.out.cells rfl
          have c4 : wr.cell? ⟨P, 4, none⟩ = _ := HG.out.cells rfl
          have c5 : wr.cell? ⟨P, 5, none⟩ = _ := HG.out.cells rfl
          have c6 : wr.cell? ⟨P, 6, none⟩ = _ := HG.out.cells rfl
          have c7 : wr.cell? ⟨P, 7, none⟩ = _ := HG.out.cells rfl
          have c8 : wr.cell? ⟨P, 8, none⟩ = _ := HG.out.cells rfl
          have c9 : wr.cell? ⟨P, 9, none⟩ = _ := HG.out.cells rfl
          have c10 : wr.cell? ⟨P, 10, none⟩ = _ := HG.out.cells rfl
          clear f2 hf
          go_wp2_with fail
          refine (HBL0.out wr).mono ?_
          rintro e w9 ⟨rfl, B9⟩
          have HB9 := keepH (below_chain HG.out.bel B9)
          clear B9 c0 c1 c2 c3 c4 c5 c6 c7 c8 c9 c10
          have hfin : E = if blB (zk k 1 key) (zk k 2 val) (zk k 3 old) hnd (zk k 9 lo) (zk k 10 hi) set rt ri n = true then 0 else 52 := by
            rw [HE.out]; unfold faultN; rw [if_neg (by rw [HHK.out]; simp), if_neg HT.out, if_neg (by rw [← HHD.out]; simp)]; rw [← HHD.out, ← HKB.out]; rfl
          obtain ⟨bb, hbb⟩ : ∃ bb, bb = blB (zk k 1 key) (zk k 2 val) (zk k 3 old) hnd (zk k 9 lo) (zk k 10 hi) set rt ri n := ⟨_, rfl⟩
          rw [← hbb] at hfin ⊢
          have HFIN := keepH hfin
          clear hfin hbb
          cases bb with
          | true =>
            go_wp2_with fail
            go_ret
            exact ⟨by rw [HFIN.out]; rfl, HB9.out⟩
          | false =>
            go_wp2_with fail
            go_ret
            exact ⟨by rw [HFIN.out]; rfl, HB9.out⟩
    | true =>
      have c0 : w4.cell? ⟨P, 0, none⟩ = _ := HS4.out.cells rfl
      have c1 : w4.cell? ⟨P, 1, none⟩ = _ := HS4.out.cells rfl
      have c2 : w4.cell? ⟨P, 2, none⟩ = _ := HS4.out.cells rfl
      have c3 : w4.cell? ⟨P, 3, none⟩ = _ := HS4.out.cells rfl
      have c4 : w4.cell? ⟨P, 4, none⟩ = _ := HS4.out.cells rfl
      have c5 : w4.cell? ⟨P, 5, none⟩ = _ := HS4.out.cells rfl
      have c6 : w4.cell? ⟨P, 6, none⟩ = _ := HS4.out.cells rfl
      have c7 : w4.cell? ⟨P, 7, none⟩ = _ := HS4.out.cells rfl
      have c8 : w4.cell? ⟨P, 8, none⟩ = _ := HS4.out.cells rfl
      have c9 : w4.cell? ⟨P, 9, none⟩ = _ := HS4.out.cells rfl
      have c10 : w4.cell? ⟨P, 10, none⟩ = _ := HS4.out.cells rfl
      go_wp2_with fail
      refine (HRH.out w4).mono ?_
      rintro e w5 ⟨rfl, B5⟩
      have HS5 := keepH (HS4.out.on B5)
      clear B5 c0 c1 c2 c3 c4 c5 c6 c7 c8 c9 c10 f0 f1 f2
      obtain ⟨rb, hrb⟩ : ∃ r, r = rhB hnd set rt ri := ⟨_, rfl⟩
      rw [← hrb]
      have HRB0 := keepH hrb
      clear hrb
      cases rb with
      | false =>
        have HEE : Hid (E = 52) := keepH (by rw [HE.out]; unfold faultN; rw [if_neg (by rw [HHK.out]; simp), if_neg HT.out, if_pos ⟨HHD.out.symm, HRB0.out.symm⟩])
        go_wp2_with fail
        go_ret
        exact ⟨by rw [HEE.out]; rfl, HS5.out.bel⟩
      | true =>
        have HRB : Hid (rhB hnd set rt ri = true) := keepH HRB0.out.symm
        have f0 : w5.cell? ⟨F, 0, none⟩ = some (.bool true) := cell_of HS5.out.fld 0
        have p4 : w5.cell? ⟨P, 4, none⟩ = _ := HS5.out.cells rfl
        have p5 : w5.cell? ⟨P, 5, none⟩ = _ := HS5.out.cells rfl
        have p6 : w5.cell? ⟨P, 6, none⟩ = _ := HS5.out.cells rfl
        have p7 : w5.cell? ⟨P, 7, none⟩ = _ := HS5.out.cells rfl
        have q4 : w5.frozen? ⟨P, 4, none⟩ = false := free_of HS5.out.box 4
        have q5 : w5.frozen? ⟨P, 5, none⟩ = false := free_of HS5.out.box 5
        have q6 : w5.frozen? ⟨P, 6, none⟩ = false := free_of HS5.out.box 6
        have q7 : w5.frozen? ⟨P, 7, none⟩ = false := free_of HS5.out.box 7
        obtain ⟨w6, hw6⟩ : ∃ w6, w6 = (((w5.setCell ⟨P, 4, none⟩ (.int .u64 0)).setCell ⟨P, 5, none⟩ (.bool false)).setCell ⟨P, 6, none⟩ (.int .i64 0)).setCell ⟨P, 7, none⟩ (.int .i64 0) := ⟨_, rfl⟩
        have HS6 : Hid (FS W P F (opR k key val old 0 false 0 0 (.slice kp n kc) lo hi) #[.bool true, .slice pp m m, .bool kb] (.slice pp m m) (numK k) w6) := keepH (by
          rw [hw6]
          exact (((HS5.out.set 4 (.int .u64 0)).set 5 (.bool false)).set 6 (.int .i64 0)).set 7 (.int .i64 0))
        have HW6 := keepH hw6
        clear hw6
        go_upto_region 10 with fail
        rw [← HW6.out]
        clear f0 p4 p5 p6 p7 q4 q5 q6 q7
        cases kb with
        | false =>
          have f1 : w6.cell? ⟨F, 1, none⟩ = some (.slice pp m m) := cell_of HS6.out.fld 1
          go_wp2_with fail
          clear f1
          go_loopw [36] (fun s wr => ∃ i : Nat, i ≤ m ∧ s = .int .i64 (i : Int) ∧ Hid (FS W P F (zr (opR k key val old 0 false 0 0 (.slice kp n kc) lo hi) ((numK k).take i)) #[.bool true, .slice pp m m, .bool false] (.slice pp m m) (numK k) wr)) (fun s _ => m - (intOf s).toNat)
          case atStart => exact ⟨0, by omega, rfl, keepH (by simpa [zr] using HS6.out)⟩
          case round =>
            obtain ⟨i, him, rfl, HR⟩ := hrel
            by_cases hlt : i < m
            · have t1 : (i : Int) < (m : Int) := by omega
              have t0 : (0 : Int) ≤ (i : Int) := by omega
              obtain ⟨o, ho⟩ : ∃ o, (numK k)[i]? = some o := ⟨(numK k)[i]'(by have := HM.out; omega), List.getElem?_eq_getElem _⟩
              obtain ⟨g, rfl, p0⟩ := HR.out.ptr ho
              have ho11 := HLT.out o (List.mem_of_getElem? ho)
              have hsz : o < (zr (opR k key val old 0 false 0 0 (.slice kp n kc) lo hi) ((numK k).take i)).size := by rw [zr_size]; exact ho11
              obtain ⟨u, hu⟩ : ∃ u, (zr (opR k key val old 0 false 0 0 (.slice kp n kc) lo hi) ((numK k).take i))[o]? = some u := ⟨_, Array.getElem?_eq_getElem hsz⟩
              have p1 : wr.cell? ⟨P, o, none⟩ = some u := HR.out.cells hu
              have p2 : wr.frozen? ⟨P, o, none⟩ = false := free_of HR.out.box o
              have hst := HR.out.set o (.int .u64 0)
              rw [← zr_next _ ho] at hst
              have HST := keepH hst
              clear ho hu hsz hst
              go_wp2_with fail
              go_roundw
              case rel => exact ⟨i + 1, by omega, by first | rfl | go_num, HST⟩
              case measure => simp [intOf]; omega
            · obtain rfl : i = m := by omega
              have t1 : ¬ (i : Int) < (i : Int) := by omega
              have hf := HR.out
              rw [HM.out, List.take_length, HZ1.out, ← HM.out] at hf
              have f2 : wr.cell? ⟨F, 2, none⟩ = some (.bool false) := cell_of hf.fld 2
              have HG := keepH hf
              go_upto_region 17 with fail
              have c0 : wr.cell? ⟨P, 0, none⟩ = _ := HG.out.cells rfl
              have c1 : wr.cell? ⟨P, 1, none⟩ = _ := HG.out.cells rfl
              have c2 : wr.cell? ⟨P, 2, none⟩ = _ := HG.out.cells rfl
              have c3 : wr.cell? ⟨P, 3, none⟩ = _ := HG.out.cells rfl
              have c4 : wr.cell? ⟨P, 4, none⟩ = _ := HG.out.cells rfl
              have c5 : wr.cell? ⟨P, 5, none⟩ = _ := HG.out.cells rfl
              have c6 : wr.cell? ⟨P, 6, none⟩ = _ := HG.out.cells rfl
              have c7 : wr.cell? ⟨P, 7, none⟩ = _ := HG.out.cells rfl
              have c8 : wr.cell? ⟨P, 8, none⟩ = _ := HG.out.cells rfl
              have c9 : wr.cell? ⟨P, 9, none⟩ = _ := HG.out.cells rfl
              have c10 : wr.cell? ⟨P, 10, none⟩ = _ := HG.out.cells rfl
              clear f2 hf
              go_wp2_with fail
              refine (HBL1.out wr).mono ?_
              rintro e w9 ⟨rfl, B9⟩
              have HB9 := keepH (below_chain HG.out.bel B9)
              clear B9 c0 c1 c2 c3 c4 c5 c6 c7 c8 c9 c10
              have hfin : E = if blB (zk k 1 key) (zk k 2 val) (zk k 3 old) 0 (zk k 9 lo) (zk k 10 hi) false 0 0 n = true then 0 else 52 := by
                rw [HE.out]; unfold faultN; rw [if_neg (by rw [HHK.out]; simp), if_neg HT.out, if_neg (by rw [← HHD.out]; intro hq; rw [HRB.out] at hq; simp at hq)]; rw [← HHD.out, ← HKB.out]; rfl
              obtain ⟨bb, hbb⟩ : ∃ bb, bb = blB (zk k 1 key) (zk k 2 val) (zk k 3 old) 0 (zk k 9 lo) (zk k 10 hi) false 0 0 n := ⟨_, rfl⟩
              rw [← hbb] at hfin ⊢
              have HFIN := keepH hfin
              clear hfin hbb
              cases bb with
              | true =>
                go_wp2_with fail
                go_ret
                exact ⟨by rw [HFIN.out]; rfl, HB9.out⟩
              | false =>
                go_wp2_with fail
                go_ret
                exact ⟨by rw [HFIN.out]; rfl, HB9.out⟩
        | true =>
          have f1 : w6.cell? ⟨F, 1, none⟩ = some (.slice pp m m) := cell_of HS6.out.fld 1
          go_wp2_with fail
          clear f1
          go_loopw [36] (fun s wr => ∃ i : Nat, i ≤ m ∧ s = .int .i64 (i : Int) ∧ Hid (FS W P F (zr (opR k key val old 0 false 0 0 (.slice kp n kc) lo hi) ((numK k).take i)) #[.bool true, .slice pp m m, .bool true] (.slice pp m m) (numK k) wr)) (fun s _ => m - (intOf s).toNat)
          case atStart => exact ⟨0, by omega, rfl, keepH (by simpa [zr] using HS6.out)⟩
          case round =>
            obtain ⟨i, him, rfl, HR⟩ := hrel
            by_cases hlt : i < m
            · have t1 : (i : Int) < (m : Int) := by omega
              have t0 : (0 : Int) ≤ (i : Int) := by omega
              obtain ⟨o, ho⟩ : ∃ o, (numK k)[i]? = some o := ⟨(numK k)[i]'(by have := HM.out; omega), List.getElem?_eq_getElem _⟩
              obtain ⟨g, rfl, p0⟩ := HR.out.ptr ho
              have ho11 := HLT.out o (List.mem_of_getElem? ho)
              have hsz : o < (zr (opR k key val old 0 false 0 0 (.slice kp n kc) lo hi) ((numK k).take i)).size := by rw [zr_size]; exact ho11
              obtain ⟨u, hu⟩ : ∃ u, (zr (opR k key val old 0 false 0 0 (.slice kp n kc) lo hi) ((numK k).take i))[o]? = some u := ⟨_, Array.getElem?_eq_getElem hsz⟩
              have p1 : wr.cell? ⟨P, o, none⟩ = some u := HR.out.cells hu
              have p2 : wr.frozen? ⟨P, o, none⟩ = false := free_of HR.out.box o
              have hst := HR.out.set o (.int .u64 0)
              rw [← zr_next _ ho] at hst
              have HST := keepH hst
              clear ho hu hsz hst
              go_wp2_with fail
              go_roundw
              case rel => exact ⟨i + 1, by omega, by first | rfl | go_num, HST⟩
              case measure => simp [intOf]; omega
            · obtain rfl : i = m := by omega
              have t1 : ¬ (i : Int) < (i : Int) := by omega
              have hf := HR.out
              rw [HM.out, List.take_length, HZ1.out, ← HM.out] at hf
              have f2 : wr.cell? ⟨F, 2, none⟩ = some (.bool true) := cell_of hf.fld 2
              have p1 : wr.cell? ⟨P, 8, none⟩ = some (.slice kp n kc) := hf.cells rfl
              have p2 : wr.frozen? ⟨P, 8, none⟩ = false := free_of hf.box 8
              have hg : FS W P F (opR k (zk k 1 key) (zk k 2 val) (zk k 3 old) 0 false 0 0 (.slice none 0 0) (zk k 9 lo) (zk k 10 hi)) _ _ _ _ := hf.set 8 (.slice none 0 0)
              have HG := keepH hg
              obtain ⟨wq, hwq⟩ : ∃ wq, wq = wr.setCell ⟨P, 8, none⟩ (.slice none 0 0) := ⟨_, rfl⟩
              rw [← hwq] at HG hg
              have HWQ := keepH hwq
              clear hf hwq
              go_upto_region 17 with fail
              rw [← HWQ.out]
              have c0 : wq.cell? ⟨P, 0, none⟩ = _ := HG.out.cells rfl
              have c1 : wq.cell? ⟨P, 1, none⟩ = _ := HG.out.cells rfl
              have c2 : wq.cell? ⟨P, 2, none⟩ = _ := HG.out.cells rfl
              have c3 : wq.cell? ⟨P, 3, none⟩ = _ := HG.out.cells rfl
              have c4 : wq.cell? ⟨P, 4, none⟩ = _ := HG.out.cells rfl
              have c5 : wq.cell? ⟨P, 5, none⟩ = _ := HG.out.cells rfl
              have c6 : wq.cell? ⟨P, 6, none⟩ = _ := HG.out.cells rfl
              have c7 : wq.cell? ⟨P, 7, none⟩ = _ := HG.out.cells rfl
              have c8 : wq.cell? ⟨P, 8, none⟩ = _ := HG.out.cells rfl
              have c9 : wq.cell? ⟨P, 9, none⟩ = _ := HG.out.cells rfl
              have c10 : wq.cell? ⟨P, 10, none⟩ = _ := HG.out.cells rfl
              clear f2 p1 p2 hg
              go_wp2_with fail
              refine (HBL2.out wq).mono ?_
              rintro e w9 ⟨rfl, B9⟩
              have HB9 := keepH (below_chain HG.out.bel B9)
              clear B9 c0 c1 c2 c3 c4 c5 c6 c7 c8 c9 c10
              have hfin : E = if blB (zk k 1 key) (zk k 2 val) (zk k 3 old) 0 (zk k 9 lo) (zk k 10 hi) false 0 0 0 = true then 0 else 52 := by
                rw [HE.out]; unfold faultN; rw [if_neg (by rw [HHK.out]; simp), if_neg HT.out, if_neg (by rw [← HHD.out]; intro hq; rw [HRB.out] at hq; simp at hq)]; rw [← HHD.out, ← HKB.out]; rfl
              obtain ⟨bb, hbb⟩ : ∃ bb, bb = blB (zk k 1 key) (zk k 2 val) (zk k 3 old) 0 (zk k 9 lo) (zk k 10 hi) false 0 0 0 := ⟨_, rfl⟩
              rw [← hbb] at hfin ⊢
              have HFIN := keepH hfin
              clear hfin hbb
              cases bb with
              | true =>
                go_wp2_with fail
                go_ret
                exact ⟨by rw [HFIN.out]; rfl, HB9.out⟩
              | false =>
                go_wp2_with fail
                go_ret
                exact ⟨by rw [HFIN.out]; rfl, HB9.out⟩
  · have hh' : hasK k = false := by simpa using hh
    have HHK := keepH hh'
    have HEE : Hid (E = 160) := keepH (by rw [HE.out]; unfold faultN; rw [if_pos hh'])
    clear hh hh'
    go_enter Tryz.func24, Tryz.ntmps24
    go_upto_region 1 with fail
    rw [← HW1.out, ← HP.out]
    go_wp2_with fail
    refine (HNO.out HHK.out).mono ?_
    rintro e w2 ⟨rfl, B2⟩
    have HB2 := keepH (below_chain HB1.out B2)
    clear B2
    go_wp2_with fail
    go_ret
    exact ⟨by rw [HEE.out]; rfl, below_chain HB2.out (below_alloc _ _)⟩
end Go.Proofs.YtmmaniolaljjlaaGreatDoor
/- The document's Lines and Words. -/
namespace Go.Proofs.YtmmaniolaljjlaaGreatDoor
open Go.RowKit Go.Shelf
set_option linter.unusedVariables false

theorem infoStr : (Tryz.prog.info? 9).map (fun i => (i.zero, i.size, i.bytes)) = some (some (.string ⟨#[]⟩), 1, 16) := by kernel_rfl
def strsRow (ls : List (List UInt8)) : List Value := ls.map (fun x => Value.string (mkS x))
theorem strsRow_snoc (ls : List (List UInt8)) (r : List UInt8) : strsRow (ls ++ [r]) = strsRow ls ++ [.string (mkS r)] := by simp [strsRow]
def joinL (ls : List (List UInt8)) : List UInt8 := (ls.map (fun x => x ++ [10])).flatten
theorem joinL_cons (ls : List (List UInt8)) (r : List UInt8) : joinL (r :: ls) = r ++ 10 :: joinL ls := by simp [joinL]
def LnR (t : List UInt8) (i f : Nat) (ls : List (List UInt8)) : Prop := ∃ r, t.take i = joinL ls ++ r ∧ f = (joinL ls).length ∧ noB 10 r ∧ (∀ x ∈ ls, noB 10 x)
theorem LnR.no {t : List UInt8} {i f : Nat} {ls : List (List UInt8)} (h : LnR t i f ls) (hi : i < t.length) (hb : ¬ t[i]? = some 10) : LnR t (i + 1) f ls := by
  obtain ⟨r, e, hf, hr, hx⟩ := h
  refine ⟨r ++ [t[i]], ?_, hf, hr.append ?_, hx⟩
  · rw [List.take_add_one, List.getElem?_eq_getElem hi, e]; simp
  · intro x hx' q
    simp at hx'
    exact hb (by rw [List.getElem?_eq_getElem hi, ← hx', q])
structure RowI (W wr : World) (v : Value) (ls : List (List UInt8)) : Prop where
  row : wr.ownsRow 0 9 1 v ls.length (strsRow ls)
  chg : Chg (fun _ => False) W wr
  new : ∀ b, v.ownBlock = some b → W.heap.size ≤ b
theorem RowI.more {W wr w2 : World} {v v' : Value} {ls : List (List UInt8)} {r : List UInt8} {o : Obj} (h : RowI W wr v ls)
    (hr : w2.ownsRow 0 9 1 v' (ls.length + 1) (strsRow ls ++ [.string (mkS r)])) (hg : (wr.alloc o).grownBy w2 v.ownBlock) (hw : v'.ownBlock = v.ownBlock ∨ v'.ownBlock = some (wr.alloc o).heap.size) : RowI W w2 v' (ls ++ [r]) := by
  have c2 : Chg (fun b => v.ownBlock = some b) wr w2 := ((Chg.refl (fun b => v.ownBlock = some b) wr).alloc o).grown hg (fun k e _ => e)
  have hz := h.chg.size
  refine ⟨by rw [strsRow_snoc, List.length_append]; exact hr, h.chg.trans c2 (fun _ _ x => x) (fun i hi x => by have := h.new _ x; omega), ?_⟩
  intro b hb
  rcases hw with e1 | e1
  · rw [e1] at hb
    exact h.new b hb
  · rw [e1] at hb
    simp at hb
    omega

def frontL (ls : List (List UInt8)) : List UInt8 := (ls.map (fun x => x ++ [32])).flatten
def WdR (t : List UInt8) (i : Nat) (fs : List (List UInt8)) (r : List UInt8) : Prop := t.take i = frontL fs ++ r ∧ noB 32 r ∧ (∀ x ∈ fs, noB 32 x)
theorem WdR.no {t : List UInt8} {i : Nat} {fs : List (List UInt8)} {r : List UInt8} (h : WdR t i fs r) (hi : i < t.length) (hb : ¬ t[i]? = some 32) : WdR t (i + 1) fs (r ++ [t[i]]) := by
  obtain ⟨e, hr, hx⟩ := h
  refine ⟨?_, hr.append ?_, hx⟩
  · rw [List.take_add_one, List.getElem?_eq_getElem hi, e]; simp
  · intro x hx' q
    simp at hx'
    exact hb (by rw [List.getElem?_eq_getElem hi, ← hx', q])
theorem WdR.len {t : List UInt8} {i : Nat} {fs : List (List UInt8)} {r : List UInt8} (h : WdR t i fs r) : r.length ≤ i := by
  have q := congrArg List.length h.1
  simp at q
  omega
theorem RowI.set {W wr : World} {g m cap : Nat} {fs : List (List UInt8)} {r r' : List UInt8} (hm : fs.length = m) (h : RowI W wr (.slice (some ⟨g, 0, none⟩) (m + 1) cap) (fs ++ [r])) : RowI W (wr.setCell ⟨g, m, none⟩ (.string (mkS r'))) (.slice (some ⟨g, 0, none⟩) (m + 1) cap) (fs ++ [r']) := by
  have hl : ∀ r, (fs ++ [r]).length = m + 1 := fun r => by simp [hm]
  have h0 := h.row
  rw [hl] at h0
  obtain ⟨k1, k2⟩ := World.ownsRow.stored h0 m (.string (mkS r'))
  refine ⟨?_, h.chg.grown k2 (fun k e hk => by injection e with e; subst e; have := h.new g rfl; omega), h.new⟩
  rw [hl, strsRow_snoc]
  rw [strsRow_snoc, List.set_append_right _ _ (by simp [strsRow, hm])] at k1
  have : m - (strsRow fs).length = 0 := by simp [strsRow, hm]
  rw [this] at k1
  exact k1
theorem RowI.cell {W wr : World} {g m cap : Nat} {fs : List (List UInt8)} {r : List UInt8} (hm : fs.length = m) (h : RowI W wr (.slice (some ⟨g, 0, none⟩) (m + 1) cap) (fs ++ [r])) : wr.cell? ⟨g, m, none⟩ = some (.string (mkS r)) ∧ wr.frozen? ⟨g, m, none⟩ = false := by
  have h0 := h.row
  rw [show (fs ++ [r]).length = m + 1 by simp [hm]] at h0
  refine ⟨?_, World.ownsRow.frozenAt h0 m⟩
  rw [World.ownsRow.cellAt h0 m (by omega), strsRow_snoc, List.getElem?_append_right (by simp [strsRow, hm])]
  simp [strsRow, hm]
theorem RowI.form {W wr : World} {v : Value} {fs : List (List UInt8)} {r : List UInt8} (h : RowI W wr v (fs ++ [r])) : ∃ g cap, v = .slice (some ⟨g, 0, none⟩) (fs.length + 1) cap := by
  have h0 := h.row
  rw [show (fs ++ [r]).length = fs.length + 1 by simp] at h0
  rcases h0.2 with ⟨_, e⟩ | ⟨g, cap, cur, e, _⟩
  · omega
  · exact ⟨g, cap, e⟩

theorem noB_cutG {c : UInt8} {a b r r' : List UInt8} (ha : noB c a) (hb : noB c b) (e : a ++ c :: r = b ++ c :: r') : a = b ∧ r = r' := by
  have h1 := ix_at (r := r) ha
  rw [e, ix_at hb] at h1
  have hl : b.length = a.length := by omega
  have := List.append_inj e hl.symm
  exact ⟨this.1, by injection this.2⟩
end Go.Proofs.YtmmaniolaljjlaaGreatDoor
/- How a handle is written. (mkScf.py) -/
namespace Go.Proofs.YtmmaniolaljjlaaGreatDoor
open Go.RowKit Go.Shelf
set_option linter.unusedVariables false

def hText (hnd : Nat) (set : Bool) (rt ri : Int) : List UInt8 := if set then [64] ++ Lib.itoa rt ++ [46] ++ Lib.itoa ri else Lib.decDigits hnd
theorem itoa_len {n : Int} (h : isI n) : (Lib.itoa n).length ≤ 21 := Lib.itoa_length_le n h.1 (by have := h.2; omega)
theorem dec_len {u : Nat} (h : isU u) : (Lib.decDigits u).length ≤ 21 := by
  have := Lib.itoa_nonneg u
  by_cases q : u < 9223372036854775808
  · rw [← this]
    exact itoa_len ⟨by omega, by omega⟩
  · have h20 : ∀ d m : Nat, m < 10 ^ d → 0 < d → (Lib.decDigits m).length ≤ d := by
      intro d
      induction d with
      | zero => intro m _ h; omega
      | succ d ih =>
        intro m hm _
        unfold Lib.decDigits
        split
        · simp
        · rw [List.length_append]
          have hp : 10 ^ (d + 1) = 10 ^ d * 10 := Nat.pow_succ _ _
          have := ih (m / 10) (by omega) (by
            rcases Nat.eq_zero_or_pos d with rfl | h
            · omega
            · exact h)
          simp
          omega
    have := h20 20 u (by unfold isU at h; omega) (by omega)
    omega
set_option maxRecDepth 100000 in
set_option maxHeartbeats 2000000 in
theorem ph_any (k key val old hnd : Nat) (set : Bool) (rt ri : Int) (vk : Value) (lo hi : Nat) (hu : isU hnd) (ha : isI rt) (hb : isI ri) (W : World) (T : Tb W) :
    Calls Tryz.prog 70 #[.agg (opR k key val old hnd set rt ri vk lo hi)] W fun e W' => e = .returned (.string (mkS (hText hnd set rt ri))) ∧ Below W.heap.size W W' := by
  obtain ⟨w1, hw1⟩ : ∃ w1, w1 = W.alloc (.cells (opR k key val old hnd set rt ri vk lo hi) 28) := ⟨_, rfl⟩
  obtain ⟨P, hP⟩ : ∃ P, P = W.heap.size := ⟨_, rfl⟩
  have B1 : Below W.heap.size W w1 := by rw [hw1]; exact below_alloc _ _
  have X1 : w1.heap[P]? = some (.cells (opR k key val old hnd set rt ri vk lo hi) 28 (0, 0)) := by rw [hw1, hP]; exact heap_alloc_new _ _
  have c4 : w1.cell? ⟨P, 4, none⟩ = _ := cell_of X1 4
  have c5 : w1.cell? ⟨P, 5, none⟩ = _ := cell_of X1 5
  have HC6 : Hid (w1.cell? ⟨P, 6, none⟩ = some (.int .i64 rt)) := keepH (cell_of X1 6)
  have HC7 : Hid (w1.cell? ⟨P, 7, none⟩ = some (.int .i64 ri)) := keepH (cell_of X1 7)
  have hi1 := fun w (h : Below w1.heap.size w1 w) => itoa_any rt ha.1 ha.2 w ((T.on B1).on h)
  have hi2 := fun w (h : Below w1.heap.size w1 w) => itoa_any ri hb.1 hb.2 w ((T.on B1).on h)
  have hde := dec_any hnd hu w1 (T.on B1)
  have HW1 := keepH hw1
  have HP := keepH hP
  have HB1 := keepH B1
  cases set with
  | false =>
    obtain ⟨s, hs⟩ : ∃ s, s = mkS (hText hnd false rt ri) := ⟨_, rfl⟩
    have e : mkS (Lib.decDigits hnd) = s := hs.symm
    rw [e] at hde
    rw [← hs]
    clear hs e hw1 hP B1 X1 hi1 hi2 hu ha hb T
    go_enter Tryz.func70, Tryz.ntmps70
    go_upto_region 1 with fail
    rw [← HW1.out, ← HP.out]
    go_wp2_with fail
    refine hde.mono ?_
    rintro e w2 ⟨rfl, D2⟩
    have E2 := below_chain HB1.out D2
    clear D2
    go_wp2_with fail
    go_ret
    exact ⟨by simp, E2⟩
  | true =>
    obtain ⟨s1, hs1⟩ : ∃ s, s = mkS (Lib.itoa rt) := ⟨_, rfl⟩
    obtain ⟨s2, hs2⟩ : ∃ s, s = mkS (Lib.itoa ri) := ⟨_, rfl⟩
    rw [← hs1] at hi1
    rw [← hs2] at hi2
    have l1 := itoa_len ha
    have l2 := itoa_len hb
    have k1 := add_str [64] (Lib.itoa rt) (by simp only [List.length_cons, List.length_nil]; omega)
    have k2 := add_str ([64] ++ Lib.itoa rt) [46] (by simp only [List.length_append, List.length_cons, List.length_nil]; omega)
    have k3 := add_str ([64] ++ Lib.itoa rt ++ [46]) (Lib.itoa ri) (by simp only [List.length_append, List.length_cons, List.length_nil]; omega)
    rw [show mkS [64] = ⟨#[64]⟩ from rfl, ← hs1] at k1
    rw [show mkS [46] = ⟨#[46]⟩ from rfl] at k2
    rw [← hs2] at k3
    obtain ⟨g1, hg1⟩ : ∃ g, g = mkS ([64] ++ Lib.itoa rt) := ⟨_, rfl⟩
    obtain ⟨g2, hg2⟩ : ∃ g, g = mkS ([64] ++ Lib.itoa rt ++ [46]) := ⟨_, rfl⟩
    obtain ⟨g3, hg3⟩ : ∃ g, g = mkS ([64] ++ Lib.itoa rt ++ [46] ++ Lib.itoa ri) := ⟨_, rfl⟩
    rw [← hg1] at k1 k2
    rw [← hg2] at k2 k3
    rw [← hg3] at k3
    have hs : mkS (hText hnd true rt ri) = g3 := hg3.symm
    rw [hs]
    clear hg1 hg2 hg3 l1 l2
    have HI1 := keepH hi1
    have HI2 := keepH hi2
    clear hs hs1 hs2 hw1 hP B1 X1 hi1 hi2 hde hu ha hb T
    go_enter Tryz.func70, Tryz.ntmps70
    go_upto_region 1 with fail
    rw [← HW1.out, ← HP.out]
    go_upto_region 2 with fail
    clear c4 c5
    refine wp_region_held_drew (S := fun w => Below w1.heap.size w1 w) (by kernel_rfl) (below_drewN (Below.refl _ _) 1) ?_
    intro hHeld
    refine wpAnyH_take (i := 0) (v := ?_) rfl (by kernel_rfl) (by kernel_rfl) (by kernel_rfl) (fun _ _ _ h => h) (Or.inl ⟨by rfl, ?_⟩) hHeld ?_
    rotate_left
    · intro w hSw
      (try dsimp only at hSw)
      go_simp
      try with_reducible rfl
    (try simp only [Act.put]); (try simp only [List.setIfInBounds_toArray]); (try simp only [List.getElem_toArray]); (repeat (first | simp only [List.getElem_cons_succ] | simp only [List.getElem_cons_zero])); (repeat (first | simp only [List.set_cons_succ] | simp only [List.set_cons_zero]))
    refine wpAnyH_take (i := 1) (v := ?_) rfl (by kernel_rfl) (by kernel_rfl) (by kernel_rfl) (fun _ _ _ h => h) (Or.inl ⟨by rfl, ?_⟩) hHeld ?_
    rotate_left
    · intro w hSw
      (try dsimp only at hSw)
      go_simp
      try with_reducible rfl
    (try simp only [Act.put]); (try simp only [List.setIfInBounds_toArray]); (try simp only [List.getElem_toArray]); (repeat (first | simp only [List.getElem_cons_succ] | simp only [List.getElem_cons_zero])); (repeat (first | simp only [List.set_cons_succ] | simp only [List.set_cons_zero]))
    refine wpAnyH_take (i := 2) (v := ?_) rfl (by kernel_rfl) (by kernel_rfl) (by kernel_rfl) (fun _ _ _ h => h) (Or.inl ⟨by rfl, ?_⟩) hHeld ?_
    rotate_left
    · intro w hSw
      (try dsimp only at hSw)
      have y6 := cell_below HC6.out hSw
      go_simp
      try with_reducible rfl
    (try simp only [Act.put]); (try simp only [List.setIfInBounds_toArray]); (try simp only [List.getElem_toArray]); (repeat (first | simp only [List.getElem_cons_succ] | simp only [List.getElem_cons_zero])); (repeat (first | simp only [List.set_cons_succ] | simp only [List.set_cons_zero]))
    refine wpAnyH_take (i := 6) (v := ?_) rfl (by kernel_rfl) (by kernel_rfl) (by kernel_rfl) (fun _ _ _ h => h) (Or.inl ⟨by rfl, ?_⟩) hHeld ?_
    rotate_left
    · intro w hSw
      (try dsimp only at hSw)
      go_simp
      try with_reducible rfl
    (try simp only [Act.put]); (try simp only [List.setIfInBounds_toArray]); (try simp only [List.getElem_toArray]); (repeat (first | simp only [List.getElem_cons_succ] | simp only [List.getElem_cons_zero])); (repeat (first | simp only [List.set_cons_succ] | simp only [List.set_cons_zero]))
    refine wpAnyH_take (i := 7) (v := ?_) rfl (by kernel_rfl) (by kernel_rfl) (by kernel_rfl) (fun _ _ _ h => h) (Or.inl ⟨by rfl, ?_⟩) hHeld ?_
    rotate_left
    · intro w hSw
      (try dsimp only at hSw)
      go_simp
      try with_reducible rfl
    (try simp only [Act.put]); (try simp only [List.setIfInBounds_toArray]); (try simp only [List.getElem_toArray]); (repeat (first | simp only [List.getElem_cons_succ] | simp only [List.getElem_cons_zero])); (repeat (first | simp only [List.set_cons_succ] | simp only [List.set_cons_zero]))
    refine wpAnyH_take (i := 8) (v := ?_) rfl (by kernel_rfl) (by kernel_rfl) (by kernel_rfl) (fun _ _ _ h => h) (Or.inl ⟨by rfl, ?_⟩) hHeld ?_
    rotate_left
    · intro w hSw
      (try dsimp only at hSw)
      have y7 := cell_below HC7.out hSw
      go_simp
      try with_reducible rfl
    (try simp only [Act.put]); (try simp only [List.setIfInBounds_toArray]); (try simp only [List.getElem_toArray]); (repeat (first | simp only [List.getElem_cons_succ] | simp only [List.getElem_cons_zero])); (repeat (first | simp only [List.set_cons_succ] | simp only [List.set_cons_zero]))
    refine wpAnyH_ready (rs := [3]) (by kernel_rfl) (by simp) ?_
    refine AllReadyH.cons rfl (fun KK hKK => ?_) AllReadyH.nil
    go_simp
    refine (HI1.out _ hHeld).mono ?_
    rintro e w2 ⟨rfl, D2⟩
    have E2 := below_chain hHeld D2
    clear D2
    refine hKK.out _ _ ?_ (fun hHeld => ?_)
    · exact E2
    clear hKK KK
    (try simp only [Act.put]); (try simp only [List.setIfInBounds_toArray]); (try simp only [List.getElem_toArray]); (repeat (first | simp only [List.getElem_cons_succ] | simp only [List.getElem_cons_zero])); (repeat (first | simp only [List.set_cons_succ] | simp only [List.set_cons_zero]))
    refine wpAnyH_take (i := 4) (v := ?_) rfl (by kernel_rfl) (by kernel_rfl) (by kernel_rfl) (fun _ _ _ h => h) (Or.inl ⟨by rfl, ?_⟩) hHeld ?_
    rotate_left
    · intro w hSw
      (try dsimp only at hSw)
      go_simp
      try with_reducible rfl
    (try simp only [Act.put]); (try simp only [List.setIfInBounds_toArray]); (try simp only [List.getElem_toArray]); (repeat (first | simp only [List.getElem_cons_succ] | simp only [List.getElem_cons_zero])); (repeat (first | simp only [List.set_cons_succ] | simp only [List.set_cons_zero]))
    refine wpAnyH_take (i := 5) (v := ?_) rfl (by kernel_rfl) (by kernel_rfl) (by kernel_rfl) (fun _ _ _ h => h) (Or.inl ⟨by rfl, ?_⟩) hHeld ?_
    rotate_left
    · intro w hSw
      (try dsimp only at hSw)
      go_simp
      try with_reducible rfl
    (try simp only [Act.put]); (try simp only [List.setIfInBounds_toArray]); (try simp only [List.getElem_toArray]); (repeat (first | simp only [List.getElem_cons_succ] | simp only [List.getElem_cons_zero])); (repeat (first | simp only [List.set_cons_succ] | simp only [List.set_cons_zero]))
    refine wpAnyH_ready (rs := [9]) (by kernel_rfl) (by simp) ?_
    refine AllReadyH.cons rfl (fun KK hKK => ?_) AllReadyH.nil
    go_simp
    refine (HI2.out _ hHeld).mono ?_
    rintro e w3 ⟨rfl, D3⟩
    have E3 := below_chain hHeld D3
    have HE3 := keepH E3
    clear D3
    refine hKK.out _ _ ?_ (fun hHeld => ?_)
    · exact E3
    clear hKK KK
    (try simp only [Act.put]); (try simp only [List.setIfInBounds_toArray]); (try simp only [List.getElem_toArray]); (repeat (first | simp only [List.getElem_cons_succ] | simp only [List.getElem_cons_zero])); (repeat (first | simp only [List.set_cons_succ] | simp only [List.set_cons_zero]))
    refine wpAnyH_take (i := 10) (v := ?_) rfl (by kernel_rfl) (by kernel_rfl) (by kernel_rfl) (fun _ _ _ h => h) (Or.inl ⟨by rfl, ?_⟩) hHeld ?_
    rotate_left
    · intro w hSw
      (try dsimp only at hSw)
      go_simp
      try with_reducible rfl
    (try simp only [Act.put]); (try simp only [List.setIfInBounds_toArray]); (try simp only [List.getElem_toArray]); (repeat (first | simp only [List.getElem_cons_succ] | simp only [List.getElem_cons_zero])); (repeat (first | simp only [List.set_cons_succ] | simp only [List.set_cons_zero]))
    refine wpAnyH_take (i := 11) (v := ?_) rfl (by kernel_rfl) (by kernel_rfl) (by kernel_rfl) (fun _ _ _ h => h) (Or.inl ⟨by rfl, ?_⟩) hHeld ?_
    rotate_left
    · intro w hSw
      (try dsimp only at hSw)
      go_simp
      try with_reducible rfl
    (try simp only [Act.put]); (try simp only [List.setIfInBounds_toArray]); (try simp only [List.getElem_toArray]); (repeat (first | simp only [List.getElem_cons_succ] | simp only [List.getElem_cons_zero])); (repeat (first | simp only [List.set_cons_succ] | simp only [List.set_cons_zero]))
    refine wpAnyH_done (by kernel_rfl) ?_ _
    go_simp
    go_wp2_with fail
    go_ret
    exact ⟨by simp, below_chain HB1.out HE3.out⟩
end Go.Proofs.YtmmaniolaljjlaaGreatDoor
