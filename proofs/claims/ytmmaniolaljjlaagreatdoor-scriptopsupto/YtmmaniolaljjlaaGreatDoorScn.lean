/- The numbers that are read go into an operation, by the program. (mkScn.py) -/
import Derived.Test.YtmmaniolaljjlaaGreatDoorScm
namespace Go.Proofs.YtmmaniolaljjlaaGreatDoor
open Go.RowKit Go.Shelf
set_option linter.unusedVariables false

def frow (row : Array Value) (ns us : List Nat) : Array Value := (ns.zip us).foldl (fun r p => r.setIfInBounds p.1 (.int .u64 (p.2 : Int))) row
def fk (k : Nat) (us : List Nat) (o : Nat) : Nat := match (numK k).findIdx? (· == o) with | some i => us.getD i 0 | none => 0
theorem frow_next (row : Array Value) {ns us : List Nat} {i m u : Nat} (h : ns[i]? = some m) (hu : us[i]? = some u) : frow row (ns.take (i + 1)) us = (frow row (ns.take i) us).setIfInBounds m (.int .u64 (u : Int)) := by
  have e : ∀ (i : Nat) (ns us : List Nat), ns[i]? = some m → us[i]? = some u → (ns.take (i + 1)).zip us = (ns.take i).zip us ++ [(m, u)] := by
    intro i
    induction i with
    | zero =>
      intro ns us h hu
      match ns, us, h, hu with
      | a :: ns, b :: us, h, hu => simp at h hu; subst h hu; simp
    | succ i ih =>
      intro ns us h hu
      match ns, us, h, hu with
      | a :: ns, b :: us, h, hu =>
        have := ih ns us (by simpa using h) (by simpa using hu)
        simp only [List.take_succ_cons, List.zip_cons_cons, List.cons_append, List.cons.injEq, true_and]
        exact this
  unfold frow
  rw [e i ns us h hu]
  simp
theorem frow_size (l : List (Nat × Nat)) : ∀ row : Array Value, (l.foldl (fun r p => r.setIfInBounds p.1 (.int .u64 (p.2 : Int))) row).size = row.size := by
  induction l with
  | nil => intro row; rfl
  | cons a r ih => intro row; simp only [List.foldl_cons]; rw [ih]; simp
theorem frow_op (k hnd : Nat) (set : Bool) (rt ri : Int) (vk : Value) (us : List Nat) (hl : us.length = (numK k).length) : frow (opR k 0 0 0 hnd set rt ri vk 0 0) (numK k) us = opR k (fk k us 1) (fk k us 2) (fk k us 3) hnd set rt ri vk (fk k us 9) (fk k us 10) := by
  unfold fk frow
  unfold numK at hl ⊢
  split at hl
  · match us, hl with
    | [a], _ => simp [List.findIdx?, List.findIdx?.go]
  · match us, hl with
    | [a, b], _ => simp [List.findIdx?, List.findIdx?.go]
  · match us, hl with
    | [a], _ => simp [List.findIdx?, List.findIdx?.go]
  · match us, hl with
    | [a, b, c], _ => simp [List.findIdx?, List.findIdx?.go]
  · match us, hl with
    | [a, b], _ => simp [List.findIdx?, List.findIdx?.go]
  · match us, hl with
    | [a, b], _ => simp [List.findIdx?, List.findIdx?.go]
  · simp [List.findIdx?, List.findIdx?.go]
/-- what lies in memory while numbers go in -/
structure LS (W : World) (P F : Nat) (row fr : Array Value) (pv : Value) (ns : List Nat) (lp : Option Addr) (us : List Nat) (wr : World) : Prop where
  box : wr.heap[P]? = some (.cells row 28 (0, 0))
  fld : wr.heap[F]? = some (.cells fr 113 (0, 0))
  num : (ns = [] ∧ pv = .slice none 0 0) ∨ ∃ g, pv = .slice (some ⟨g, 0, none⟩) ns.length ns.length ∧ g ≠ P ∧ wr.heap[g]? = some (.cells (ns.map fun n => Value.pointer (some ⟨P, n, none⟩)).toArray 115 (0, 0))
  lst : us = [] ∨ ∃ g, lp = some ⟨g, 0, none⟩ ∧ g ≠ P ∧ ∀ (i x : Nat), us[i]? = some x → wr.cell? ⟨g, i, none⟩ = some (.int .u64 (x : Int))
  chg : Chg (fun b => b = P) W wr
  ne : F ≠ P
theorem LS.set {W : World} {P F : Nat} {row fr : Array Value} {pv : Value} {ns : List Nat} {lp : Option Addr} {us : List Nat} {wr : World} (h : LS W P F row fr pv ns lp us wr) (i : Nat) (v : Value) : LS W P F (row.setIfInBounds i v) fr pv ns lp us (wr.setCell ⟨P, i, none⟩ v) := by
  refine ⟨set_of h.box i v, other_of h.fld h.ne v, ?_, ?_, chg_setP h.chg i v, h.ne⟩
  · rcases h.num with x | ⟨g, h1, h2, h3⟩
    · exact .inl x
    · exact .inr ⟨g, h1, h2, other_of h3 h2 v⟩
  · rcases h.lst with x | ⟨g, h1, h2, h3⟩
    · exact .inl x
    · refine .inr ⟨g, h1, h2, fun j x hx => ?_⟩
      have := h3 j x hx
      rw [← this]
      exact World.cell?_of_block (w := wr) (Below.heap_setCell wr ⟨P, i, none⟩ v g h2)
theorem LS.ptr {W : World} {P F : Nat} {row fr : Array Value} {pp : Option Addr} {m : Nat} {ns : List Nat} {lp : Option Addr} {us : List Nat} {wr : World} (h : LS W P F row fr (.slice pp m m) ns lp us wr) {i o : Nat} (ho : ns[i]? = some o) : ∃ g, pp = some ⟨g, 0, none⟩ ∧ wr.cell? ⟨g, i, none⟩ = some (.pointer (some ⟨P, o, none⟩)) := by
  rcases h.num with ⟨rfl, _⟩ | ⟨g, h1, h2, h3⟩
  · simp at ho
  · refine ⟨g, by injection h1, ?_⟩
    rw [cell_of h3 i]
    simp [ho]
theorem LS.at {W : World} {P F : Nat} {row fr : Array Value} {pv : Value} {ns : List Nat} {lp : Option Addr} {us : List Nat} {wr : World} (h : LS W P F row fr pv ns lp us wr) {i x : Nat} (hx : us[i]? = some x) : ∃ g, lp = some ⟨g, 0, none⟩ ∧ wr.cell? ⟨g, i, none⟩ = some (.int .u64 (x : Int)) := by
  rcases h.lst with rfl | ⟨g, h1, h2, h3⟩
  · simp at hx
  · exact ⟨g, h1, h3 i x hx⟩
/-- what a filling leaves -/
def FiQ (W : World) (P k hnd : Nat) (set : Bool) (rt ri : Int) (lp : Option Addr) (us : List Nat) (c : Nat) (e : Ending) (W' : World) : Prop := Chg (fun b => b = P) W W' ∧
  ((kysK k = true ∧ ∃ ok, ok = decide (us.length ≤ 1024) ∧ e = .returned (.bool ok) ∧ W'.heap[P]? = some (.cells (opR k 0 0 0 hnd set rt ri (.slice lp us.length c) 0 0) 28 (0, 0))) ∨
   (kysK k = false ∧ us.length = (numK k).length ∧ e = .returned (.bool true) ∧ W'.heap[P]? = some (.cells (opR k (fk k us 1) (fk k us 2) (fk k us 3) hnd set rt ri (.slice none 0 0) (fk k us 9) (fk k us 10)) 28 (0, 0))) ∨
   (kysK k = false ∧ us.length ≠ (numK k).length ∧ e = .returned (.bool false)))
set_option maxRecDepth 100000 in
set_option maxHeartbeats 8000000 in
theorem fill_any (P k hnd : Nat) (set : Bool) (rt ri : Int) (h : Bool) (pp lp : Option Addr) (us : List Nat) (c : Nat) (hl : us.length ≤ 200000000) (W : World)
    (hX : W.heap[P]? = some (.cells (opR k 0 0 0 hnd set rt ri (.slice none 0 0) 0 0) 28 (0, 0)))
    (hN : (numK k = [] ∧ Value.slice pp (numK k).length (numK k).length = .slice none 0 0) ∨ ∃ g, Value.slice pp (numK k).length (numK k).length = .slice (some ⟨g, 0, none⟩) (numK k).length (numK k).length ∧ g ≠ P ∧ W.heap[g]? = some (.cells ((numK k).map fun n => Value.pointer (some ⟨P, n, none⟩)).toArray 115 (0, 0)))
    (hU : us = [] ∨ ∃ g, lp = some ⟨g, 0, none⟩ ∧ g ≠ P ∧ ∀ (i x : Nat), us[i]? = some x → W.cell? ⟨g, i, none⟩ = some (.int .u64 (x : Int))) :
    Calls Tryz.prog 79 #[.pointer (some ⟨P, 0, none⟩), .agg #[.bool h, .slice pp (numK k).length (numK k).length, .bool (kysK k)], .slice lp us.length c] W (FiQ W P k hnd set rt ri lp us c) := by
  obtain ⟨m, hm⟩ : ∃ m, m = (numK k).length := ⟨_, rfl⟩
  rw [← hm] at hN ⊢
  obtain ⟨n, hn⟩ : ∃ n, n = us.length := ⟨_, rfl⟩
  rw [← hn] at hl ⊢
  obtain ⟨kb, hkb⟩ : ∃ d, d = kysK k := ⟨_, rfl⟩
  rw [← hkb]
  obtain ⟨w1, hw1⟩ : ∃ w1, w1 = W.alloc (.cells #[.bool h, .slice pp m m, .bool kb] 113) := ⟨_, rfl⟩
  obtain ⟨F, hF⟩ : ∃ F, F = W.heap.size := ⟨_, rfl⟩
  have B1 : Below W.heap.size W w1 := by rw [hw1]; exact below_alloc _ _
  have S1 : LS W P F (opR k 0 0 0 hnd set rt ri (.slice none 0 0) 0 0) #[.bool h, .slice pp m m, .bool kb] (.slice pp m m) (numK k) lp us w1 := by
    have hx := (Array.getElem?_eq_some_iff.1 hX).1
    refine ⟨heap_below hX B1, by rw [hw1, hF]; exact heap_alloc_new _ _, ?_, ?_, chg_of_below B1, by omega⟩
    · rw [← hm]
      rcases hN with x | ⟨g, q1, q2, q3⟩
      · exact .inl x
      · exact .inr ⟨g, q1, q2, heap_below q3 B1⟩
    · rcases hU with x | ⟨g, q1, q2, q3⟩
      · exact .inl x
      · exact .inr ⟨g, q1, q2, fun i x hx => cell_below (q3 i x hx) B1⟩
  have HS1 := keepH S1
  have HW1 := keepH hw1
  have HF := keepH hF
  have HM := keepH hm
  have HN := keepH hn
  have HKB := keepH hkb
  have HLT := keepH (numK_lt k)
  have HTM := keepH (fun w => too_any k 0 0 0 hnd set rt ri lp n c 0 0 w)
  have hm3 : m ≤ 3 := by rw [hm]; exact numK_len k
  have HFO := keepH (fun hl => frow_op k hnd set rt ri (.slice none 0 0) us hl)
  clear hX hN hU hw1 hF B1 S1 hm hn hkb
  cases kb with
  | true =>
    have hk70 : k = 7 := by have := HKB.out; unfold kysK at this; simpa using this
    have HK7 := keepH hk70
    clear hk70
    have f2 : w1.cell? ⟨F, 2, none⟩ = some (.bool true) := cell_of HS1.out.fld 2
    have p8 : w1.cell? ⟨P, 8, none⟩ = _ := cell_of HS1.out.box 8
    have q8 : w1.frozen? ⟨P, 8, none⟩ = false := free_of HS1.out.box 8
    obtain ⟨w2, hw2⟩ : ∃ w2, w2 = w1.setCell ⟨P, 8, none⟩ (.slice lp n c) := ⟨_, rfl⟩
    have HX2 : Hid (w2.heap[P]? = some (.cells (opR k 0 0 0 hnd set rt ri (.slice lp n c) 0 0) 28 (0, 0))) := keepH (by rw [hw2]; exact set_of HS1.out.box 8 _)
    have HC2 : Hid (Chg (fun b => b = P) W w2) := keepH (by rw [hw2]; exact chg_setP HS1.out.chg 8 _)
    have HW2 := keepH hw2
    clear hw2
    go_enter Tryz.func79, Tryz.ntmps79
    go_upto_region 1 with fail
    rw [← HW1.out, ← HF.out]
    go_upto_region 3 with fail
    rw [← HW2.out]
    clear f2 p8 q8
    have d0 : w2.cell? ⟨P, 0, none⟩ = _ := cell_of HX2.out 0
    have d1 : w2.cell? ⟨P, 1, none⟩ = _ := cell_of HX2.out 1
    have d2 : w2.cell? ⟨P, 2, none⟩ = _ := cell_of HX2.out 2
    have d3 : w2.cell? ⟨P, 3, none⟩ = _ := cell_of HX2.out 3
    have d4 : w2.cell? ⟨P, 4, none⟩ = _ := cell_of HX2.out 4
    have d5 : w2.cell? ⟨P, 5, none⟩ = _ := cell_of HX2.out 5
    have d6 : w2.cell? ⟨P, 6, none⟩ = _ := cell_of HX2.out 6
    have d7 : w2.cell? ⟨P, 7, none⟩ = _ := cell_of HX2.out 7
    have d8 : w2.cell? ⟨P, 8, none⟩ = _ := cell_of HX2.out 8
    have d9 : w2.cell? ⟨P, 9, none⟩ = _ := cell_of HX2.out 9
    have d10 : w2.cell? ⟨P, 10, none⟩ = _ := cell_of HX2.out 10
    go_wp2_with fail
    refine (HTM.out w2).mono ?_
    rintro e w3 ⟨rfl, B3⟩
    have HX3 := keepH (heap_below HX2.out B3)
    have HC3 := keepH (HC2.out.trans (chg_of_below (P := P) B3) (fun _ _ x => x) (fun _ _ x => x))
    have HR : Hid ((!decide (k = 7 ∧ 1024 < n)) = decide (us.length ≤ 1024)) := keepH (by
      rw [← HN.out, Bool.eq_iff_iff]
      simp [HK7.out])
    obtain ⟨dd, hdd⟩ : ∃ d, d = decide (k = 7 ∧ 1024 < n) := ⟨_, rfl⟩
    rw [← hdd] at HR ⊢
    clear B3 d0 d1 d2 d3 d4 d5 d6 d7 d8 d9 d10 hdd
    go_wp2_with fail
    go_ret
    exact ⟨HC3.out, .inl ⟨HKB.out.symm, !dd, HR.out, by simp, by rw [← HN.out]; exact HX3.out⟩⟩
  | false =>
    have f1 : w1.cell? ⟨F, 1, none⟩ = some (.slice pp m m) := cell_of HS1.out.fld 1
    have f2 : w1.cell? ⟨F, 2, none⟩ = some (.bool false) := cell_of HS1.out.fld 2
    by_cases hnm : n = m
    · subst hnm
      go_enter Tryz.func79, Tryz.ntmps79
      go_upto_region 1 with fail
      rw [← HW1.out, ← HF.out]
      go_wp2_with fail
      clear f1 f2
      go_loopw [29] (fun s wr => ∃ i : Nat, i ≤ n ∧ s = .int .i64 (i : Int) ∧ Hid (LS W P F (frow (opR k 0 0 0 hnd set rt ri (.slice none 0 0) 0 0) ((numK k).take i) us) #[.bool h, .slice pp n n, .bool false] (.slice pp n n) (numK k) lp us wr)) (fun s _ => n - (intOf s).toNat)
      case atStart => exact ⟨0, by omega, rfl, keepH (by simpa [frow] using HS1.out)⟩
      case round =>
        obtain ⟨i, him, rfl, HR⟩ := hrel
        by_cases hlt : i < n
        · have t1 : (i : Int) < (n : Int) := by omega
          have t0 : (0 : Int) ≤ (i : Int) := by omega
          obtain ⟨o, ho⟩ : ∃ o, (numK k)[i]? = some o := ⟨(numK k)[i]'(by have := HM.out; omega), List.getElem?_eq_getElem _⟩
          obtain ⟨x, hx⟩ : ∃ x, us[i]? = some x := ⟨us[i]'(by have := HN.out; omega), List.getElem?_eq_getElem _⟩
          obtain ⟨g, rfl, p0⟩ := HR.out.ptr ho
          obtain ⟨g2, rfl, p3⟩ := HR.out.at hx
          have ho11 := HLT.out o (List.mem_of_getElem? ho)
          have hsz : o < (frow (opR k 0 0 0 hnd set rt ri (.slice none 0 0) 0 0) ((numK k).take i) us).size := by unfold frow; rw [frow_size]; exact ho11
          obtain ⟨u, hu⟩ : ∃ u, (frow (opR k 0 0 0 hnd set rt ri (.slice none 0 0) 0 0) ((numK k).take i) us)[o]? = some u := ⟨_, Array.getElem?_eq_getElem hsz⟩
          have p1 : wr.cell? ⟨P, o, none⟩ = some u := (cell_of HR.out.box o).trans hu
          have p2 : wr.frozen? ⟨P, o, none⟩ = false := free_of HR.out.box o
          have hst := HR.out.set o (.int .u64 (x : Int))
          rw [← frow_next _ ho hx] at hst
          have HST := keepH hst
          clear ho hx hu hsz hst
          go_wp2_with fail
          go_roundw
          case rel => exact ⟨i + 1, by omega, by first | rfl | go_num, HST⟩
          case measure => simp [intOf]; omega
        · obtain rfl : i = n := by omega
          have t1 : ¬ (i : Int) < (i : Int) := by omega
          have hf := HR.out
          have hlu : us.length = (numK k).length := by rw [← HN.out, ← HM.out]
          rw [HM.out, List.take_length, HFO.out hlu, ← HM.out] at hf
          have HG := keepH hf
          have HLU := keepH hlu
          clear hf hlu
          go_wp2_with fail
          go_ret
          exact ⟨HG.out.chg, .inr (.inl ⟨HKB.out.symm, HLU.out, by simp, HG.out.box⟩)⟩
    · have t1 : ¬ ((n : Int) = (m : Int)) := by omega
      have u1 : ((n : Int) != (m : Int)) = true := by simpa using t1
      have HNM := keepH hnm
      go_enter Tryz.func79, Tryz.ntmps79
      go_upto_region 1 with fail
      rw [← HW1.out, ← HF.out]
      go_wp2_with fail
      go_ret
      exact ⟨HS1.out.chg, .inr (.inr ⟨HKB.out.symm, by rw [← HN.out, ← HM.out]; exact HNM.out, by simp⟩)⟩
end Go.Proofs.YtmmaniolaljjlaaGreatDoor
