/- The numbers that are read go into an operation, by the program. (mkScn.py) -/
import Derived.Test.YtmmaniolaljjlaaGreatDoorP7Scm
import Derived.Test.YtmmaniolaljjlaaGreatDoorP3Sb0
import Derived.Shelf.Abstract
namespace Go.Proofs.YtmmaniolaljjlaaGreatDoor
open Go.RowKit Go.Shelf
set_option linter.unusedVariables false

def frow (row : Array Value) (ns us : List Nat) : Array Value := (ns.zip us).foldl (fun r p => r.setIfInBounds p.1 (.int .u64 (p.2 : Int))) row
def fk (k : Nat) (us : List Nat) (o : Nat) : Nat := match (numK k).findIdx? (· == o) with | some i => us.getD i 0 | none => 0
theorem frow_next (row : Array Value) {ns us : List Nat} {i m u : Nat} (h : ns[i]? = some m) (hu : us[i]? = some u) : frow row (ns.take (i + 1)) us = (frow row (ns.take i) us).setIfInBounds m (.int .u64 (u : Int)) := by
  have e : ∀ (i : Nat) (ns us : List Nat), ns[i]? = some m → us[i]? = some u → (ns.take (i + 1)).zip us = (ns.take i).zip us ++ [(m, u)] := by
    intro i
    induction i with
    | zero =>
      intro ns us h hu
      match ns, us, h, hu with
      | a :: ns, b :: us, h, hu => simp at h hu; subst h hu; simp
    | succ i ih =>
      intro ns us h hu
      match ns, us, h, hu with
      | a :: ns, b :: us, h, hu =>
        have := ih ns us (by simpa using h) (by simpa using hu)
        simp only [List.take_succ_cons, List.zip_cons_cons, List.cons_append, List.cons.injEq, true_and]
        exact this
  unfold frow
  rw [e i ns us h hu]
  simp
theorem frow_size (l : List (Nat × Nat)) : ∀ row : Array Value, (l.foldl (fun r p => r.setIfInBounds p.1 (.int .u64 (p.2 : Int))) row).size = row.size := by
  induction l with
  | nil => intro row; rfl
  | cons a r ih => intro row; simp only [List.foldl_cons]; rw [ih]; simp
theorem frow_op (k hnd : Nat) (set : Bool) (rt ri : Int) (vk : Value) (us : List Nat) (hl : us.length = (numK k).length) : frow (opR k 0 0 0 hnd set rt ri vk 0 0) (numK k) us = opR k (fk k us 1) (fk k us 2) (fk k us 3) hnd set rt ri vk (fk k us 9) (fk k us 10) := by
  unfold fk frow
  unfold numK at hl ⊢
  split at hl
  · match us, hl with
    | [a], _ => simp [List.findIdx?, List.findIdx?.go]
  · match us, hl with
    | [a, b], _ => simp [List.findIdx?, List.findIdx?.go]
  · match us, hl with
    | [a], _ => simp [List.findIdx?, List.findIdx?.go]
  · match us, hl with
    | [a, b, c], _ => simp [List.findIdx?, List.findIdx?.go]
  · match us, hl with
    | [a, b], _ => simp [List.findIdx?, List.findIdx?.go]
  · match us, hl with
    | [a, b], _ => simp [List.findIdx?, List.findIdx?.go]
  · simp [List.findIdx?, List.findIdx?.go]
/-- what lies in memory while numbers go in -/
structure LS (W : World) (P F : Nat) (row fr : Array Value) (pv : Value) (ns : List Nat) (lp : Option Addr) (us : List Nat) (wr : World) : Prop where
  box : wr.heap[P]? = some (.cells row 28 (0, 0))
  fld : wr.heap[F]? = some (.cells fr 113 (0, 0))
  num : (ns = [] ∧ pv = .slice none 0 0) ∨ ∃ g, pv = .slice (some ⟨g, 0, none⟩) ns.length ns.length ∧ g ≠ P ∧ wr.heap[g]? = some (.cells (ns.map fun n => Value.pointer (some ⟨P, n, none⟩)).toArray 115 (0, 0))
  lst : us = [] ∨ ∃ g, lp = some ⟨g, 0, none⟩ ∧ g ≠ P ∧ ∀ (i x : Nat), us[i]? = some x → wr.cell? ⟨g, i, none⟩ = some (.int .u64 (x : Int))
  chg : Chg (fun b => b = P) W wr
  ne : F ≠ P
theorem LS.set {W : World} {P F : Nat} {row fr : Array Value} {pv : Value} {ns : List Nat} {lp : Option Addr} {us : List Nat} {wr : World} (h : LS W P F row fr pv ns lp us wr) (i : Nat) (v : Value) : LS W P F (row.setIfInBounds i v) fr pv ns lp us (wr.setCell ⟨P, i, none⟩ v) := by
  refine ⟨set_of h.box i v, other_of h.fld h.ne v, ?_, ?_, chg_setP h.chg i v, h.ne⟩
  · rcases h.num with x | ⟨g, h1, h2, h3⟩
    · exact .inl x
    · exact .inr ⟨g, h1, h2, other_of h3 h2 v⟩
  · rcases h.lst with x | ⟨g, h1, h2, h3⟩
    · exact .inl x
    · refine .inr ⟨g, h1, h2, fun j x hx => ?_⟩
      have := h3 j x hx
      rw [← this]
      exact World.cell?_of_block (w := wr) (Below.heap_setCell wr ⟨P, i, none⟩ v g h2)
theorem LS.ptr {W : World} {P F : Nat} {row fr : Array Value} {pp : Option Addr} {m : Nat} {ns : List Nat} {lp : Option Addr} {us : List Nat} {wr : World} (h : LS W P F row fr (.slice pp m m) ns lp us wr) {i o : Nat} (ho : ns[i]? = some o) : ∃ g, pp = some ⟨g, 0, none⟩ ∧ wr.cell? ⟨g, i, none⟩ = some (.pointer (some ⟨P, o, none⟩)) := by
  rcases h.num with ⟨rfl, _⟩ | ⟨g, h1, h2, h3⟩
  · simp at ho
  · refine ⟨g, by injection h1, ?_⟩
    rw [cell_of h3 i]
    simp [ho]
theorem LS.at {W : World} {P F : Nat} {row fr : Array Value} {pv : Value} {ns : List Nat} {lp : Option Addr} {us : List Nat} {wr : World} (h : LS W P F row fr pv ns lp us wr) {i x : Nat} (hx : us[i]? = some x) : ∃ g, lp = some ⟨g, 0, none⟩ ∧ wr.cell? ⟨g, i, none⟩ = some (.int .u64 (x : Int)) := by
  rcases h.lst with rfl | ⟨g, h1, h2, h3⟩
  · simp at hx
  · exact ⟨g, h1, h3 i x hx⟩
/-- what a filling leaves -/
def FiQ (W : World) (P k hnd : Nat) (set : Bool) (rt ri : Int) (lp : Option Addr) (us : List Nat) (c : Nat) (e : Ending) (W' : World) : Prop := Chg (fun b => b = P) W W' ∧
  ((kysK k = true ∧ ∃ ok, ok = decide (us.length ≤ 1024) ∧ e = .returned (.bool ok) ∧ W'.heap[P]? = some (.cells (opR k 0 0 0 hnd set rt ri (.slice lp us.length c) 0 0) 28 (0, 0))) ∨
   (kysK k = false ∧ us.length = (numK k).length ∧ e = .returned (.bool true) ∧ W'.heap[P]? = some (.cells (opR k (fk k us 1) (fk k us 2) (fk k us 3) hnd set rt ri (.slice none 0 0) (fk k us 9) (fk k us 10)) 28 (0, 0))) ∨
   (kysK k = false ∧ us.length ≠ (numK k).length ∧ e = .returned (.bool false)))
set_option maxRecDepth 100000 in
set_option maxHeartbeats 8000000 in
theorem fill_any (P k hnd : Nat) (set : Bool) (rt ri : Int) (h : Bool) (pp lp : Option Addr) (us : List Nat) (c : Nat) (hl : us.length ≤ 200000000) (W : World)
    (hX : W.heap[P]? = some (.cells (opR k 0 0 0 hnd set rt ri (.slice none 0 0) 0 0) 28 (0, 0)))
    (hN : (numK k = [] ∧ Value.slice pp (numK k).length (numK k).length = .slice none 0 0) ∨ ∃ g, Value.slice pp (numK k).length (numK k).length = .slice (some ⟨g, 0, none⟩) (numK k).length (numK k).length ∧ g ≠ P ∧ W.heap[g]? = some (.cells ((numK k).map fun n => Value.pointer (some ⟨P, n, none⟩)).toArray 115 (0, 0)))
    (hU : us = [] ∨ ∃ g, lp = some ⟨g, 0, none⟩ ∧ g ≠ P ∧ ∀ (i x : Nat), us[i]? = some x → W.cell? ⟨g, i, none⟩ = some (.int .u64 (x : Int))) :
    Calls Tryz.prog 79 #[.pointer (some ⟨P, 0, none⟩), .agg #[.bool h, .slice pp (numK k).length (numK k).length, .bool (kysK k)], .slice lp us.length c] W (FiQ W P k hnd set rt ri lp us c) := by
  obtain ⟨m, hm⟩ : ∃ m, m = (numK k).length := ⟨_, rfl⟩
  rw [← hm] at hN ⊢
  obtain ⟨n, hn⟩ : ∃ n, n = us.length := ⟨_, rfl⟩
  rw [← hn] at hl ⊢
  obtain ⟨kb, hkb⟩ : ∃ d, d = kysK k := ⟨_, rfl⟩
  rw [← hkb]
  obtain ⟨w1, hw1⟩ : ∃ w1, w1 = W.alloc (.cells #[.bool h, .slice pp m m, .bool kb] 113) := ⟨_, rfl⟩
  obtain ⟨F, hF⟩ : ∃ F, F = W.heap.size := ⟨_, rfl⟩
  have B1 : Below W.heap.size W w1 := by rw [hw1]; exact below_alloc _ _
  have S1 : LS W P F (opR k 0 0 0 hnd set rt ri (.slice none 0 0) 0 0) #[.bool h, .slice pp m m, .bool kb] (.slice pp m m) (numK k) lp us w1 := by
    have hx := (Array.getElem?_eq_some_iff.1 hX).1
    refine ⟨heap_below hX B1, by rw [hw1, hF]; exact heap_alloc_new _ _, ?_, ?_, chg_of_below B1, by omega⟩
    · rw [← hm]
      rcases hN with x | ⟨g, q1, q2, q3⟩
      · exact .inl x
      · exact .inr ⟨g, q1, q2, heap_below q3 B1⟩
    · rcases hU with x | ⟨g, q1, q2, q3⟩
      · exact .inl x
      · exact .inr ⟨g, q1, q2, fun i x hx => cell_below (q3 i x hx) B1⟩
  have HS1 := keepH S1
  have HW1 := keepH hw1
  have HF := keepH hF
  have HM := keepH hm
  have HN := keepH hn
  have HKB := keepH hkb
  have HLT := keepH (numK_lt k)
  have HTM := keepH (fun w => too_any k 0 0 0 hnd set rt ri lp n c 0 0 w)
  have hm3 : m ≤ 3 := by rw [hm]; exact numK_len k
  have HFO := keepH (fun hl => frow_op k hnd set rt ri (.slice none 0 0) us hl)
  clear hX hN hU hw1 hF B1 S1 hm hn hkb
  cases kb with
  | true =>
    have hk70 : k = 7 := by have := HKB.out; unfold kysK at this; simpa using this
    have HK7 := keepH hk70
    clear hk70
    have f2 : w1.cell? ⟨F, 2, none⟩ = some (.bool true) := cell_of HS1.out.fld 2
    have p8 : w1.cell? ⟨P, 8, none⟩ = _ := cell_of HS1.out.box 8
    have q8 : w1.frozen? ⟨P, 8, none⟩ = false := free_of HS1.out.box 8
    obtain ⟨w2, hw2⟩ : ∃ w2, w2 = w1.setCell ⟨P, 8, none⟩ (.slice lp n c) := ⟨_, rfl⟩
    have HX2 : Hid (w2.heap[P]? = some (.cells (opR k 0 0 0 hnd set rt ri (.slice lp n c) 0 0) 28 (0, 0))) := keepH (by rw [hw2]; exact set_of HS1.out.box 8 _)
    have HC2 : Hid (Chg (fun b => b = P) W w2) := keepH (by rw [hw2]; exact chg_setP HS1.out.chg 8 _)
    have HW2 := keepH hw2
    clear hw2
    go_enter Tryz.func79, Tryz.ntmps79
    go_upto_region 1 with fail
    rw [← HW1.out, ← HF.out]
    go_upto_region 3 with fail
    rw [← HW2.out]
    clear f2 p8 q8
    have d0 : w2.cell? ⟨P, 0, none⟩ = _ := cell_of HX2.out 0
    have d1 : w2.cell? ⟨P, 1, none⟩ = _ := cell_of HX2.out 1
    have d2 : w2.cell? ⟨P, 2, none⟩ = _ := cell_of HX2.out 2
    have d3 : w2.cell? ⟨P, 3, none⟩ = _ := cell_of HX2.out 3
    have d4 : w2.cell? ⟨P, 4, none⟩ = _ := cell_of HX2.out 4
    have d5 : w2.cell? ⟨P, 5, none⟩ = _ := cell_of HX2.out 5
    have d6 : w2.cell? ⟨P, 6, none⟩ = _ := cell_of HX2.out 6
    have d7 : w2.cell? ⟨P, 7, none⟩ = _ := cell_of HX2.out 7
    have d8 : w2.cell? ⟨P, 8, none⟩ = _ := cell_of HX2.out 8
    have d9 : w2.cell? ⟨P, 9, none⟩ = _ := cell_of HX2.out 9
    have d10 : w2.cell? ⟨P, 10, none⟩ = _ := cell_of HX2.out 10
    go_wp2_with fail
    refine (HTM.out w2).mono ?_
    rintro e w3 ⟨rfl, B3⟩
    have HX3 := keepH (heap_below HX2.out B3)
    have HC3 := keepH (HC2.out.trans (chg_of_below (P := P) B3) (fun _ _ x => x) (fun _ _ x => x))
    have HR : Hid ((!decide (k = 7 ∧ 1024 < n)) = decide (us.length ≤ 1024)) := keepH (by
      rw [← HN.out, Bool.eq_iff_iff]
      simp [HK7.out])
    obtain ⟨dd, hdd⟩ : ∃ d, d = decide (k = 7 ∧ 1024 < n) := ⟨_, rfl⟩
    rw [← hdd] at HR ⊢
    clear B3 d0 d1 d2 d3 d4 d5 d6 d7 d8 d9 d10 hdd
    go_wp2_with fail
    go_ret
    exact ⟨HC3.out, .inl ⟨HKB.out.symm, !dd, HR.out, by simp, by rw [← HN.out]; exact HX3.out⟩⟩
  | false =>
    have f1 : w1.cell? ⟨F, 1, none⟩ = some (.slice pp m m) := cell_of HS1.out.fld 1
    have f2 : w1.cell? ⟨F, 2, none⟩ = some (.bool false) := cell_of HS1.out.fld 2
    by_cases hnm : n = m
    · subst hnm
      go_enter Tryz.func79, Tryz.ntmps79
      go_upto_region 1 with fail
      rw [← HW1.out, ← HF.out]
      go_wp2_with fail
      clear f1 f2
      go_loopw [29] (fun s wr => ∃ i : Nat, i ≤ n ∧ s = .int .i64 (i : Int) ∧ Hid (LS W P F (frow (opR k 0 0 0 hnd set rt ri (.slice none 0 0) 0 0) ((numK k).take i) us) #[.bool h, .slice pp n n, .bool false] (.slice pp n n) (numK k) lp us wr)) (fun s _ => n - (intOf s).toNat)
      case atStart => exact ⟨0, by omega, rfl, keepH (by simpa [frow] using HS1.out)⟩
      case round =>
        obtain ⟨i, him, rfl, HR⟩ := hrel
        by_cases hlt : i < n
        · have t1 : (i : Int) < (n : Int) := by omega
          have t0 : (0 : Int) ≤ (i : Int) := by omega
          obtain ⟨o, ho⟩ : ∃ o, (numK k)[i]? = some o := ⟨(numK k)[i]'(by have := HM.out; omega), List.getElem?_eq_getElem _⟩
          obtain ⟨x, hx⟩ : ∃ x, us[i]? = some x := ⟨us[i]'(by have := HN.out; omega), List.getElem?_eq_getElem _⟩
          obtain ⟨g, rfl, p0⟩ := HR.out.ptr ho
          obtain ⟨g2, rfl, p3⟩ := HR.out.at hx
          have ho11 := HLT.out o (List.mem_of_getElem? ho)
          have hsz : o < (frow (opR k 0 0 0 hnd set rt ri (.slice none 0 0) 0 0) ((numK k).take i) us).size := by unfold frow; rw [frow_size]; exact ho11
          obtain ⟨u, hu⟩ : ∃ u, (frow (opR k 0 0 0 hnd set rt ri (.slice none 0 0) 0 0) ((numK k).take i) us)[o]? = some u := ⟨_, Array.getElem?_eq_getElem hsz⟩
          have p1 : wr.cell? ⟨P, o, none⟩ = some u := (cell_of HR.out.box o).trans hu
          have p2 : wr.frozen? ⟨P, o, none⟩ = false := free_of HR.out.box o
          have hst := HR.out.set o (.int .u64 (x : Int))
          rw [← frow_next _ ho hx] at hst
          have HST := keepH hst
          clear ho hx hu hsz hst
          go_wp2_with fail
          go_roundw
          case rel => exact ⟨i + 1, by omega, by first | rfl | go_num, HST⟩
          case measure => simp [intOf]; omega
        · obtain rfl : i = n := by omega
          have t1 : ¬ (i : Int) < (i : Int) := by omega
          have hf := HR.out
          have hlu : us.length = (numK k).length := by rw [← HN.out, ← HM.out]
          rw [HM.out, List.take_length, HFO.out hlu, ← HM.out] at hf
          have HG := keepH hf
          have HLU := keepH hlu
          clear hf hlu
          go_wp2_with fail
          go_ret
          exact ⟨HG.out.chg, .inr (.inl ⟨HKB.out.symm, HLU.out, by simp, HG.out.box⟩)⟩
    · have t1 : ¬ ((n : Int) = (m : Int)) := by omega
      have u1 : ((n : Int) != (m : Int)) = true := by simpa using t1
      have HNM := keepH hnm
      go_enter Tryz.func79, Tryz.ntmps79
      go_upto_region 1 with fail
      rw [← HW1.out, ← HF.out]
      go_wp2_with fail
      go_ret
      exact ⟨HS1.out.chg, .inr (.inr ⟨HKB.out.symm, by rw [← HN.out, ← HM.out]; exact HNM.out, by simp⟩)⟩
end Go.Proofs.YtmmaniolaljjlaaGreatDoor
/- Operations that are right, and their texts: what is pure. -/
namespace Go.Proofs.YtmmaniolaljjlaaGreatDoor
open Go.RowKit Go.Shelf
set_option linter.unusedVariables false

def faultO (o : Opx) : Nat := faultN o.k o.key o.val o.old o.hnd o.set o.rt o.ri none o.keys.length 0 o.lo o.hi
def rightO (o : Opx) : Prop := o.Ok ∧ faultO o = 0
def partO (o : Opx) : List (List UInt8) := partsO o.k o.key o.val o.old o.hnd o.set o.rt o.ri o.keys o.lo o.hi
def textO (o : Opx) : List UInt8 := opT o.k o.key o.val o.old o.hnd o.set o.rt o.ri o.keys o.lo o.hi
def PQ (t : List UInt8) (ok : Bool) (o : Opx) : Prop := (ok = true → rightO o ∧ t = textO o) ∧ ∀ o', rightO o' → t = textO o' → ok = true ∧ o = o'
theorem opW_no (k : Nat) : noB 32 (opW k) := by
  unfold opW
  by_cases h : k < 11
  · have : k = 0 ∨ k = 1 ∨ k = 2 ∨ k = 3 ∨ k = 4 ∨ k = 5 ∨ k = 6 ∨ k = 7 ∨ k = 8 ∨ k = 9 ∨ k = 10 := by omega
    rcases this with rfl | rfl | rfl | rfl | rfl | rfl | rfl | rfl | rfl | rfl | rfl <;> (unfold noB; decide)
  · rw [List.getD, List.getElem?_eq_none (by show 11 ≤ k; omega)]
    exact noB_nil 32
theorem hText_no (hnd : Nat) (set : Bool) (rt ri : Int) : noB 32 (hText hnd set rt ri) := by
  unfold hText
  split
  · have h1 := itoa_no rt 32 (by decide)
    have h2 := itoa_no ri 32 (by decide)
    refine ((noB.append ?_ h1).append ?_).append h2 <;> (unfold noB; decide)
  · exact (dec_no hnd).1
theorem part_no (o : Opx) : ∀ f ∈ partO o, noB 32 f := by
  intro f hf
  unfold partO partsO at hf
  simp only [List.mem_append, List.mem_map, List.mem_singleton] at hf
  rcases hf with ((rfl | hf) | ⟨i, _, rfl⟩) | hf
  · exact opW_no _
  · split at hf
    · simp at hf; subst hf; exact hText_no _ _ _ _
    · simp at hf
  · exact (dec_no _).1
  · split at hf
    · obtain ⟨u, hu, rfl⟩ := List.mem_map.1 hf
      exact (dec_no _).1
    · simp at hf
theorem part_ne (o : Opx) : partO o ≠ [] := by unfold partO partsO; simp
theorem text_iff (t : List UInt8) (o : Opx) : t = textO o ↔ Lib.split t [32] = partO o := by
  constructor
  · intro h
    rw [h]
    exact split_join _ (part_ne o) (part_no o)
  · intro h
    have := join_split t
    rw [h] at this
    exact this.symm
theorem natsM_some : ∀ {fs : List (List UInt8)} {us : List Nat}, fs.mapM natP = some us → fs = us.map Lib.decDigits ∧ ∀ u ∈ us, isU u
  | [], us, h => by simp at h; subst h; exact ⟨rfl, fun u hu => by simp at hu⟩
  | f :: r, us, h => by
    simp only [List.mapM_cons, Option.bind_eq_bind, Option.bind_eq_some_iff, Option.pure_def, Option.some.injEq] at h
    obtain ⟨b, hb, r', hr', rfl⟩ := h
    obtain ⟨e, hu⟩ := natP_some hb
    obtain ⟨e2, hu2⟩ := natsM_some hr'
    refine ⟨by rw [e, e2]; rfl, fun u hm => ?_⟩
    rcases List.mem_cons.1 hm with rfl | hm
    · exact hu
    · exact hu2 u hm
theorem natsM_dec : ∀ (us : List Nat), (∀ u ∈ us, isU u) → (us.map Lib.decDigits).mapM natP = some us
  | [], _ => rfl
  | u :: r, h => by
    simp only [List.map_cons, List.mapM_cons, natP_dec u (h u (by simp)), natsM_dec r (fun x hx => h x (by simp [hx]))]
    rfl
def nuO (o : Opx) : List Nat := (numK o.k).map (numAt o.key o.val o.old o.lo o.hi) ++ o.keys
structure RP (o : Opx) : Prop where
  has : hasK o.k = true
  parts : partO o = opW o.k :: ((if hndK o.k = true then [hText o.hnd o.set o.rt o.ri] else []) ++ (nuO o).map Lib.decDigits)
  hd : hndK o.k = true → rhB o.hnd o.set o.rt o.ri = true
  nohd : hndK o.k = false → o.hnd = 0 ∧ o.set = false ∧ o.rt = 0 ∧ o.ri = 0
  kys : kysK o.k = true → o.keys.length ≤ 1024
  nokys : kysK o.k = false → o.keys = []
  z1 : 1 ∉ numK o.k → o.key = 0
  z2 : 2 ∉ numK o.k → o.val = 0
  z3 : 3 ∉ numK o.k → o.old = 0
  z9 : 9 ∉ numK o.k → o.lo = 0
  z10 : 10 ∉ numK o.k → o.hi = 0
theorem right_parts {o : Opx} (h : rightO o) : RP o := by
  have hf := h.2
  unfold faultO faultN at hf
  cases e1 : hasK o.k with
  | false => rw [if_pos e1] at hf; simp at hf
  | true =>
    rw [if_neg (by rw [e1]; simp)] at hf
    split at hf
    · simp at hf
    · rename_i h7
      split at hf
      · simp at hf
      · rename_i hr
        have key : ∀ c : Bool, (if c = true then 0 else 52) = 0 → c = true := fun c h => by
          cases c with
          | true => rfl
          | false => simp at h
        have hb := key _ hf
        unfold blB at hb
        simp only [decide_eq_true_eq] at hb
        obtain ⟨⟨b1, b2, b3, b4, b9, b10⟩, ⟨c1, c2, c3⟩, d⟩ := hb
        have nk : kysK o.k = false → o.keys = [] := fun hk => by
          rw [hk] at d
          simp at d
          exact d
        refine ⟨e1, ?_, ?_, ?_, ?_, nk, ?_, ?_, ?_, ?_, ?_⟩
        · unfold partO partsO nuO
          cases hk : kysK o.k with
          | true => simp
          | false => rw [nk hk]; simp
        · intro hh
          cases e : rhB o.hnd o.set o.rt o.ri with
          | true => rfl
          | false => exact absurd ⟨hh, e⟩ hr
        · intro hh
          rw [hh] at b4 c1 c2 c3
          exact ⟨by simpa using b4, by simpa using c1, by simpa using c2, by simpa using c3⟩
        · intro hk
          have : o.k = 7 := by unfold kysK at hk; simpa using hk
          have := fun q => h7 ⟨this, q⟩
          omega
        · intro q; simpa [zk, q] using b1
        · intro q; simpa [zk, q] using b2
        · intro q; simpa [zk, q] using b3
        · intro q; simpa [zk, q] using b9
        · intro q; simpa [zk, q] using b10
theorem nu_u {o : Opx} (h : o.Ok) : ∀ u ∈ nuO o, isU u := by
  intro u hu
  unfold nuO at hu
  rcases List.mem_append.1 hu with hu | hu
  · obtain ⟨i, _, rfl⟩ := List.mem_map.1 hu
    exact numAt_u h.key h.val h.old h.lo h.hi i
  · exact h.keys u hu
theorem mk_right {o : Opx} (ok : o.Ok) (has : hasK o.k = true) (hd : hndK o.k = true → rhB o.hnd o.set o.rt o.ri = true) (nohd : hndK o.k = false → o.hnd = 0 ∧ o.set = false ∧ o.rt = 0 ∧ o.ri = 0) (kys : kysK o.k = true → o.keys.length ≤ 1024) (nokys : kysK o.k = false → o.keys = [])
    (z1 : 1 ∉ numK o.k → o.key = 0) (z2 : 2 ∉ numK o.k → o.val = 0) (z3 : 3 ∉ numK o.k → o.old = 0) (z9 : 9 ∉ numK o.k → o.lo = 0) (z10 : 10 ∉ numK o.k → o.hi = 0) : rightO o := by
  refine ⟨ok, ?_⟩
  unfold faultO faultN
  rw [if_neg (by rw [has]; simp), if_neg (by
    rintro ⟨h7, hl⟩
    have := kys (by unfold kysK; simpa using h7)
    omega), if_neg (by
    rintro ⟨h1, h2⟩
    rw [hd h1] at h2
    simp at h2), if_pos]
  unfold blB
  simp only [decide_eq_true_eq]
  have zz : ∀ i x, (i ∉ numK o.k → x = 0) → zk o.k i x = 0 := fun i x hx => by
    unfold zk
    split
    · rfl
    · rename_i q; exact hx q
  refine ⟨⟨zz 1 _ z1, zz 2 _ z2, zz 3 _ z3, ?_, zz 9 _ z9, zz 10 _ z10⟩, ⟨?_, ?_, ?_⟩, ?_⟩
  · cases e : hndK o.k with
    | true => simp
    | false => simpa using (nohd e).1
  · cases e : hndK o.k with
    | true => simp
    | false => simpa using (nohd e).2.1
  · cases e : hndK o.k with
    | true => simp
    | false => simpa using (nohd e).2.2.1
  · cases e : hndK o.k with
    | true => simp
    | false => simpa using (nohd e).2.2.2
  · cases e : kysK o.k with
    | true => simp
    | false => simpa using nokys e
theorem fk_none {k o : Nat} (us : List Nat) (h : o ∉ numK k) : fk k us o = 0 := by
  have : (numK k).findIdx? (· == o) = none := by
    rw [List.findIdx?_eq_none_iff]
    intro x hx
    simp
    intro e
    subst e
    exact h hx
  unfold fk
  rw [this]
theorem fk_u {k : Nat} {us : List Nat} (h : ∀ u ∈ us, isU u) (o : Nat) : isU (fk k us o) := by
  unfold fk
  split
  · rename_i i _
    cases e : us[i]? with
    | none => simp [List.getD, e]; unfold isU; omega
    | some x => simp [List.getD, e]; exact h x (List.mem_of_getElem? e)
  · unfold isU; omega
/-- the numbers that went in come out -/
theorem fk_nums (k : Nat) (us : List Nat) (hl : us.length = (numK k).length) : (numK k).map (numAt (fk k us 1) (fk k us 2) (fk k us 3) (fk k us 9) (fk k us 10)) = us := by
  unfold fk
  unfold numK at hl ⊢
  split at hl
  · match us, hl with
    | [a], _ => simp [List.findIdx?, List.findIdx?.go, numAt]
  · match us, hl with
    | [a, b], _ => simp [List.findIdx?, List.findIdx?.go, numAt]
  · match us, hl with
    | [a], _ => simp [List.findIdx?, List.findIdx?.go, numAt]
  · match us, hl with
    | [a, b, c], _ => simp [List.findIdx?, List.findIdx?.go, numAt]
  · match us, hl with
    | [a, b], _ => simp [List.findIdx?, List.findIdx?.go, numAt]
  · match us, hl with
    | [a, b], _ => simp [List.findIdx?, List.findIdx?.go, numAt]
  · match us, hl with
    | [], _ => simp
/-- numbers that are in the fields are the fields -/
theorem fk_of (k key val old lo hi : Nat) (z1 : 1 ∉ numK k → key = 0) (z2 : 2 ∉ numK k → val = 0) (z3 : 3 ∉ numK k → old = 0) (z9 : 9 ∉ numK k → lo = 0) (z10 : 10 ∉ numK k → hi = 0) :
    fk k ((numK k).map (numAt key val old lo hi)) 1 = key ∧ fk k ((numK k).map (numAt key val old lo hi)) 2 = val ∧ fk k ((numK k).map (numAt key val old lo hi)) 3 = old ∧ fk k ((numK k).map (numAt key val old lo hi)) 9 = lo ∧ fk k ((numK k).map (numAt key val old lo hi)) 10 = hi := by
  unfold fk
  unfold numK at *
  split at z1 <;> simp [List.findIdx?, List.findIdx?.go, numAt] at z1 z2 z3 z9 z10 ⊢ <;> simp_all
end Go.Proofs.YtmmaniolaljjlaaGreatDoor
/- A script in memory. (mkSea.py) -/
namespace Go.Proofs.YtmmaniolaljjlaaGreatDoor
open Go.RowKit Go.Shelf
set_option linter.unusedVariables false

abbrev scR (ce sl : Int) (stp : Nat) (mu : Int) (tv pv : Value) : Array Value := #[.int .i64 ce, .int .i64 sl, .int .u64 (stp : Int), .int .i64 mu, tv, pv]
def ORd (W : World) (p : Option Addr) (l : List Opx) : Prop :=
  l = [] ∨ ∃ bk off, p = some ⟨bk, off, none⟩ ∧ bk < W.heap.size ∧ ∀ (i : Nat) (o : Opx), l[i]? = some o → ∃ kp kc, KRd W kp o.keys ∧ W.cell? ⟨bk, off + i * 11, none⟩ = some (.int .u8 (o.k : Int)) ∧ W.cell? ⟨bk, off + i * 11 + 1, none⟩ = some (.int .u64 (o.key : Int)) ∧ W.cell? ⟨bk, off + i * 11 + 2, none⟩ = some (.int .u64 (o.val : Int)) ∧ W.cell? ⟨bk, off + i * 11 + 3, none⟩ = some (.int .u64 (o.old : Int)) ∧ W.cell? ⟨bk, off + i * 11 + 4, none⟩ = some (.int .u64 (o.hnd : Int)) ∧ W.cell? ⟨bk, off + i * 11 + 5, none⟩ = some (.bool o.set) ∧ W.cell? ⟨bk, off + i * 11 + 6, none⟩ = some (.int .i64 o.rt) ∧ W.cell? ⟨bk, off + i * 11 + 7, none⟩ = some (.int .i64 o.ri) ∧ W.cell? ⟨bk, off + i * 11 + 8, none⟩ = some (.slice kp o.keys.length kc) ∧ W.cell? ⟨bk, off + i * 11 + 9, none⟩ = some (.int .u64 (o.lo : Int)) ∧ W.cell? ⟨bk, off + i * 11 + 10, none⟩ = some (.int .u64 (o.hi : Int))
theorem ORd.get {W : World} {p : Option Addr} {l : List Opx} (h : ORd W p l) (i : Nat) (o : Opx) (hx : l[i]? = some o) : ∃ bk off kp kc, p = some ⟨bk, off, none⟩ ∧ bk < W.heap.size ∧ KRd W kp o.keys ∧ W.cell? ⟨bk, off + i * 11, none⟩ = some (.int .u8 (o.k : Int)) ∧ W.cell? ⟨bk, off + i * 11 + 1, none⟩ = some (.int .u64 (o.key : Int)) ∧ W.cell? ⟨bk, off + i * 11 + 2, none⟩ = some (.int .u64 (o.val : Int)) ∧ W.cell? ⟨bk, off + i * 11 + 3, none⟩ = some (.int .u64 (o.old : Int)) ∧ W.cell? ⟨bk, off + i * 11 + 4, none⟩ = some (.int .u64 (o.hnd : Int)) ∧ W.cell? ⟨bk, off + i * 11 + 5, none⟩ = some (.bool o.set) ∧ W.cell? ⟨bk, off + i * 11 + 6, none⟩ = some (.int .i64 o.rt) ∧ W.cell? ⟨bk, off + i * 11 + 7, none⟩ = some (.int .i64 o.ri) ∧ W.cell? ⟨bk, off + i * 11 + 8, none⟩ = some (.slice kp o.keys.length kc) ∧ W.cell? ⟨bk, off + i * 11 + 9, none⟩ = some (.int .u64 (o.lo : Int)) ∧ W.cell? ⟨bk, off + i * 11 + 10, none⟩ = some (.int .u64 (o.hi : Int)) := by
  rcases h with rfl | ⟨bk, off, rfl, hb, h⟩
  · simp at hx
  · obtain ⟨kp, kc, h⟩ := h i o hx
    exact ⟨bk, off, kp, kc, rfl, hb, h⟩
theorem ORd.on {W X : World} {p : Option Addr} {l : List Opx} (h : ORd W p l) (hb : Below W.heap.size W X) : ORd X p l := by
  rcases h with rfl | ⟨bk, off, rfl, hl, h⟩
  · exact .inl rfl
  · refine .inr ⟨bk, off, rfl, Nat.lt_of_lt_of_le hl hb.size, fun i o hx => ?_⟩
    obtain ⟨kp, kc, hk, a0, a1, a2, a3, a4, a5, a6, a7, a8, a9, a10⟩ := h i o hx
    exact ⟨kp, kc, hk.on hb, cell_below a0 hb, cell_below a1 hb, cell_below a2 hb, cell_below a3 hb, cell_below a4 hb, cell_below a5 hb, cell_below a6 hb, cell_below a7 hb, cell_below a8 hb, cell_below a9 hb, cell_below a10 hb⟩
def TRd (W : World) (p : Option Addr) (ts : List (List Opx)) : Prop :=
  ts = [] ∨ ∃ bk off, p = some ⟨bk, off, none⟩ ∧ bk < W.heap.size ∧ ∀ (i : Nat) (l : List Opx), ts[i]? = some l → ∃ lp lc, ORd W lp l ∧ W.cell? ⟨bk, off + i, none⟩ = some (.slice lp l.length lc)
theorem TRd.get {W : World} {p : Option Addr} {ts : List (List Opx)} (h : TRd W p ts) (i : Nat) (l : List Opx) (hx : ts[i]? = some l) : ∃ bk off lp lc, p = some ⟨bk, off, none⟩ ∧ bk < W.heap.size ∧ ORd W lp l ∧ W.cell? ⟨bk, off + i, none⟩ = some (.slice lp l.length lc) := by
  rcases h with rfl | ⟨bk, off, rfl, hb, h⟩
  · simp at hx
  · obtain ⟨lp, lc, h⟩ := h i l hx
    exact ⟨bk, off, lp, lc, rfl, hb, h⟩
theorem TRd.on {W X : World} {p : Option Addr} {ts : List (List Opx)} (h : TRd W p ts) (hb : Below W.heap.size W X) : TRd X p ts := by
  rcases h with rfl | ⟨bk, off, rfl, hl, h⟩
  · exact .inl rfl
  · refine .inr ⟨bk, off, rfl, Nat.lt_of_lt_of_le hl hb.size, fun i l hx => ?_⟩
    obtain ⟨lp, lc, h1, h2⟩ := h i l hx
    exact ⟨lp, lc, h1.on hb, cell_below h2 hb⟩
def IRd (W : World) (p : Option Addr) (l : List Int) : Prop :=
  l = [] ∨ ∃ bk off, p = some ⟨bk, off, none⟩ ∧ bk < W.heap.size ∧ ∀ (i : Nat) (x : Int), l[i]? = some x → W.cell? ⟨bk, off + i, none⟩ = some (.int .i64 x)
theorem IRd.get {W : World} {p : Option Addr} {l : List Int} (h : IRd W p l) (i : Nat) (x : Int) (hx : l[i]? = some x) : ∃ bk off, p = some ⟨bk, off, none⟩ ∧ bk < W.heap.size ∧ W.cell? ⟨bk, off + i, none⟩ = some (.int .i64 x) := by
  rcases h with rfl | ⟨bk, off, rfl, hb, h⟩
  · simp at hx
  · exact ⟨bk, off, rfl, hb, h i x hx⟩
theorem IRd.on {W X : World} {p : Option Addr} {l : List Int} (h : IRd W p l) (hb : Below W.heap.size W X) : IRd X p l := by
  rcases h with rfl | ⟨bk, off, rfl, hl, h⟩
  · exact .inl rfl
  · exact .inr ⟨bk, off, rfl, Nat.lt_of_lt_of_le hl hb.size, fun i x hx => cell_below (h i x hx) hb⟩
/-- what a script is -/
structure SOk (ts : List (List Opx)) (ps : List Int) : Prop where
  tl : ts.length ≤ 10000000
  pl : ps.length ≤ 10000000
  ll : ∀ l ∈ ts, l.length ≤ 10000000
  ok : ∀ l ∈ ts, ∀ o ∈ l, o.Ok ∧ o.keys.length ≤ 10000000
  pk : ∀ x ∈ ps, isI x
def anyO (P : Opx → Prop) (ts : List (List Opx)) : Prop := ∃ l ∈ ts, ∃ o ∈ l, P o
theorem anyO_at {P : Opx → Prop} {ts : List (List Opx)} {i j : Nat} {l : List Opx} {o : Opx} (h1 : ts[i]? = some l) (h2 : l[j]? = some o) (h : P o) : anyO P ts := ⟨l, List.mem_of_getElem? h1, o, List.mem_of_getElem? h2, h⟩
/-- none so far: in the lists ahead of i -/
def noT (P : Opx → Prop) (ts : List (List Opx)) (i : Nat) : Prop := ∀ l ∈ ts.take i, ∀ o ∈ l, ¬ P o
def noL (P : Opx → Prop) (l : List Opx) (j : Nat) : Prop := ∀ o ∈ l.take j, ¬ P o
theorem noT.zero (P : Opx → Prop) (ts : List (List Opx)) : noT P ts 0 := fun l hl => by simp at hl
theorem noL.zero (P : Opx → Prop) (l : List Opx) : noL P l 0 := fun l hl => by simp at hl
theorem noL.next {P : Opx → Prop} {l : List Opx} {j : Nat} {o : Opx} (h : noL P l j) (hx : l[j]? = some o) (hp : ¬ P o) : noL P l (j + 1) := fun x hm => by
  rw [List.take_add_one, hx] at hm
  rcases List.mem_append.1 hm with hm | hm
  · exact h x hm
  · simp at hm; subst hm; exact hp
theorem noT.next {P : Opx → Prop} {ts : List (List Opx)} {i : Nat} {l : List Opx} (h : noT P ts i) (hx : ts[i]? = some l) (hp : noL P l l.length) : noT P ts (i + 1) := fun x hm => by
  rw [List.take_add_one, hx] at hm
  rcases List.mem_append.1 hm with hm | hm
  · exact h x hm
  · simp at hm; subst hm
    intro o ho
    exact hp o (by rw [List.take_length]; exact ho)
theorem noT.all {P : Opx → Prop} {ts : List (List Opx)} (h : noT P ts ts.length) : ¬ anyO P ts := by
  rintro ⟨l, hl, o, ho, hp⟩
  exact h l (by rw [List.take_length]; exact hl) o ho hp
def tooO (o : Opx) : Prop := o.k = 7 ∧ 1024 < o.keys.length
instance (o : Opx) : Decidable (tooO o) := by unfold tooO; infer_instance
def longT (ts : List (List Opx)) (ps : List Int) : Prop := (∃ l ∈ ts, 4096 < l.length) ∨ 64 < ts.length ∨ 1048576 < ps.length
end Go.Proofs.YtmmaniolaljjlaaGreatDoor
/- A copy of a script in memory of its own: what it is made of. -/
namespace Go.Proofs.YtmmaniolaljjlaaGreatDoor
open Go.RowKit Go.Shelf
set_option linter.unusedVariables false

def opC (o : Opx) (kv : Value) : List Value := (opR o.k o.key o.val o.old o.hnd o.set o.rt o.ri kv o.lo o.hi).toList
theorem opC_len (o : Opx) (kv : Value) : (opC o kv).length = 11 := rfl
def opRows : List Opx → List Value → List Value
  | o :: l, kv :: ks => opC o kv ++ opRows l ks
  | _, _ => []
theorem opRows_snoc : ∀ (l : List Opx) (ks : List Value) (o : Opx) (kv : Value), ks.length = l.length → opRows (l ++ [o]) (ks ++ [kv]) = opRows l ks ++ opC o kv
  | [], [], o, kv, _ => by simp [opRows]
  | [], k :: ks, o, kv, h => by simp at h
  | a :: l, [], o, kv, h => by simp at h
  | a :: l, k :: ks, o, kv, h => by
    simp only [List.cons_append, opRows]
    rw [opRows_snoc l ks o kv (by simpa using h)]
    simp
theorem opRows_at : ∀ (l : List Opx) (ks : List Value) (i q : Nat) (o : Opx) (kv : Value), l[i]? = some o → ks[i]? = some kv → q < 11 → (opRows l ks)[i * 11 + q]? = (opC o kv)[q]?
  | a :: l, k :: ks, 0, q, o, kv, h1, h2, hq => by
    simp at h1 h2
    subst h1 h2
    simp only [opRows]
    rw [List.getElem?_append_left (by rw [opC_len]; omega)]
    simp
  | a :: l, k :: ks, i + 1, q, o, kv, h1, h2, hq => by
    simp only [opRows]
    rw [List.getElem?_append_right (by rw [opC_len]; omega), opC_len, show (i + 1) * 11 + q - 11 = i * 11 + q by omega]
    exact opRows_at l ks i q o kv (by simpa using h1) (by simpa using h2) hq
  | [], _, i, q, o, kv, h1, _, _ => by simp at h1
  | a :: l, [], i, q, o, kv, _, h2, _ => by simp at h2
def KyO (Z wr : World) (keys : List Nat) (kv : Value) : Prop := wr.ownsRow 0 23 1 kv keys.length (uRow keys) ∧ ∀ b, kv.ownBlock = some b → Z.heap.size ≤ b
/-- a list of operations of one's own -/
def OB (Z wr : World) (v : Value) (l : List Opx) : Prop := ∃ ks : List Value, ks.length = l.length ∧ wr.ownsRow 0 28 11 v l.length (opRows l ks) ∧ (∀ b, v.ownBlock = some b → Z.heap.size ≤ b) ∧ ∀ (i : Nat) (o : Opx) (kv : Value), l[i]? = some o → ks[i]? = some kv → KyO Z wr o.keys kv
def Kp (wr X : World) : Prop := ∀ (b : Nat) (cur : Array Value) (t : TypeId), wr.heap[b]? = some (.cells cur t (0, 0)) → (t = 28 ∨ t = 23) → X.heap[b]? = wr.heap[b]?
theorem Kp.bel {wr X : World} (h : Below wr.heap.size wr X) : Kp wr X := fun b cur t hb _ => h.block b (Array.getElem?_eq_some_iff.1 hb).1
theorem row_keptK {wr X : World} {e : TypeId} {s n : Nat} {v : Value} {xs : List Value} (h : wr.ownsRow 0 e s v n xs) (hk : Kp wr X) (he : e = 28 ∨ e = 23) : X.ownsRow 0 e s v n xs := row_kept h fun b hb => by
  obtain ⟨cur, hcur⟩ := row_block h b hb
  exact hk b cur e hcur he
theorem OB.kept {Z wr X : World} {v : Value} {l : List Opx} (h : OB Z wr v l) (hk : Kp wr X) : OB Z X v l := by
  obtain ⟨ks, h1, h2, h3, h4⟩ := h
  exact ⟨ks, h1, row_keptK h2 hk (.inl rfl), h3, fun i o kv ho hkv => ⟨row_keptK (h4 i o kv ho hkv).1 hk (.inr rfl), (h4 i o kv ho hkv).2⟩⟩
theorem OB.nil (Z wr : World) : OB Z wr (.slice none 0 0) [] := ⟨[], rfl, World.ownsRow_nil _ _ _ _, fun b hb => by simp [Value.ownBlock] at hb, fun i o kv ho => by simp at ho⟩
theorem OB.more {Z w1 w2 : World} {v v' kv : Value} {l : List Opx} {o : Opx} {ob : Obj} {ks : List Value} (h1 : ks.length = l.length) (h2 : w1.ownsRow 0 28 11 v l.length (opRows l ks)) (h3 : ∀ b, v.ownBlock = some b → Z.heap.size ≤ b) (h4 : ∀ (i : Nat) (o : Opx) (kv : Value), l[i]? = some o → ks[i]? = some kv → KyO Z w1 o.keys kv)
    (hZ : Z.heap.size ≤ w1.heap.size) (hkv : KyO Z w1 o.keys kv) (hr : w2.ownsRow 0 28 11 v' (l.length + 1) (opRows l ks ++ opC o kv)) (hg : (w1.alloc ob).grownBy w2 v.ownBlock) (hw : v'.ownBlock = v.ownBlock ∨ v'.ownBlock = some (w1.alloc ob).heap.size) : OB Z w2 v' (l ++ [o]) := by
  have ky : ∀ keys kv, KyO Z w1 keys kv → KyO Z w2 keys kv := fun keys kv hk => ⟨row_kept hk.1 fun b hb => by
    obtain ⟨cur, hcur⟩ := row_block hk.1 b hb
    have hlt := (Array.getElem?_eq_some_iff.1 hcur).1
    have ha : (w1.alloc ob).heap[b]? = w1.heap[b]? := Below.heap_alloc _ _ _ hlt
    rw [← ha]
    refine hg.block b (by simp; omega) (fun e => ?_)
    obtain ⟨cur2, hcur2⟩ := row_block h2 b e.symm
    rw [hcur] at hcur2
    injection hcur2 with hcur2
    injection hcur2 with _ ht
    exact absurd ht (by decide), hk.2⟩
  refine ⟨ks ++ [kv], by simp [h1], by rw [opRows_snoc l ks o kv h1, List.length_append]; exact hr, fun b hb => ?_, fun i x kx hx hkx => ?_⟩
  · rcases hw with e | e
    · rw [e] at hb; exact h3 b hb
    · rw [e] at hb
      simp at hb
      omega
  · by_cases hi : i < l.length
    · rw [List.getElem?_append_left hi] at hx
      rw [List.getElem?_append_left (by omega)] at hkx
      exact ky _ _ (h4 i x kx hx hkx)
    · have hi2 : i = l.length := by
        have := (List.getElem?_eq_some_iff.1 hx).1
        simp at this
        omega
      subst hi2
      rw [← h1] at hkx
      simp at hx hkx
      subst hx hkx
      exact ky _ _ hkv
theorem KyO.form {Z wr : World} {keys : List Nat} {kv : Value} (h : KyO Z wr keys kv) : ∃ kp kc, kv = .slice kp keys.length kc ∧ KRd wr kp keys := by
  have hl := fun k hk => row_lt h.1 k hk
  have hc := fun g (hg : kv.ownBlock = some g) => h.1.cells (g := g) hg
  rcases h.1.2 with ⟨hv, h0⟩ | ⟨g, cap, cur, hv, _⟩
  · exact ⟨none, 0, by rw [hv, h0], .inl (List.eq_nil_of_length_eq_zero h0)⟩
  · refine ⟨_, cap, hv, .inr ⟨g, 0, rfl, hl g (by rw [hv]; rfl), fun i x hx => ?_⟩⟩
    have := hc g (by rw [hv]; rfl) i (.int .u64 (x : Int)) (by unfold uRow; rw [List.getElem?_map, hx]; rfl)
    rw [Addr.add_mid] at this
    exact this
theorem OB.ord {Z wr : World} {v : Value} {l : List Opx} (h : OB Z wr v l) : ∃ lp lc, v = .slice lp l.length lc ∧ ORd wr lp l := by
  obtain ⟨ks, h1, h2, h3, h4⟩ := h
  have h2' := h2
  rcases h2.2 with ⟨hv, h0⟩ | ⟨g, cap, cur, hv, _⟩
  · exact ⟨none, 0, by rw [hv, h0], .inl (List.eq_nil_of_length_eq_zero h0)⟩
  · refine ⟨_, cap, hv, .inr ⟨g, 0, rfl, row_lt h2 g (by rw [hv]; rfl), fun i o ho => ?_⟩⟩
    have hi := (List.getElem?_eq_some_iff.1 ho).1
    obtain ⟨kv, hkv⟩ : ∃ kv, ks[i]? = some kv := ⟨_, List.getElem?_eq_getElem (by omega)⟩
    obtain ⟨kp, kc, rfl, hK⟩ := (h4 i o kv ho hkv).form
    rw [hv] at h2'
    have hcell : ∀ q, q < 11 → wr.cell? ⟨g, 0 + i * 11 + q, none⟩ = (opC o (.slice kp o.keys.length kc))[q]? := fun q hq => by
      rw [Nat.zero_add, World.ownsRow.cellAt h2' (i * 11 + q) (by omega)]
      exact opRows_at l ks i q o _ ho hkv hq
    exact ⟨kp, kc, hK, hcell 0 (by decide), hcell 1 (by decide), hcell 2 (by decide), hcell 3 (by decide), hcell 4 (by decide), hcell 5 (by decide), hcell 6 (by decide), hcell 7 (by decide), hcell 8 (by decide), hcell 9 (by decide), hcell 10 (by decide)⟩
end Go.Proofs.YtmmaniolaljjlaaGreatDoor
/- The bank of a plain memory: what lies where, and what its small calls do. -/
namespace Go.Proofs.YtmmaniolaljjlaaGreatDoor
open Go.RowKit

def u64V (x : Nat) : Value := .int .u64 (x : Int)
def cellN (cs : List Nat) (i : Nat) : Nat := cs.getD i 0

/-- An access as the trace has it. -/
structure Acc where
  th : Int
  kind : Nat
  addr : Nat
  a : Nat
  b : Nat
  vs : Value
  vals : List Nat
  got : Nat
  ok : Bool
def Acc.cells (x : Acc) : List Value := [.int .i64 x.th, .int .u8 (x.kind : Int), .int .u64 (x.addr : Int), .int .u64 (x.a : Int), .int .u64 (x.b : Int), x.vs, .int .u64 (x.got : Int), .bool x.ok]
def accRow (l : List Acc) : List Value := l.flatMap Acc.cells

def bankCells (cv av : Value) (most next : Nat) : Array Value := #[cv, .int .i64 (most : Int), .int .i64 (next : Int), av]

structure BankAt (W : World) (F : Nat → Prop) (b : Nat) (cv av : Value) (most next : Nat) (cs : List Nat) (l : List Acc) : Prop where
  blk : W.heap[b]? = some (.cells (bankCells cv av most next) 238 (0, 0))
  row : W.ownsRow 0 23 1 cv cs.length (cs.map u64V)
  acc : W.ownsRow 0 208 8 av l.length (accRow l)
  vals : ∀ x ∈ l, W.ownsRow 0 23 1 x.vs x.vals.length (x.vals.map u64V)
  ne : ∀ x ∈ l, ∀ k, x.vs.ownBlock = some k → cv.ownBlock ≠ some k
  inb : F b
  inc : ∀ k, cv.ownBlock = some k → F k
  ina : ∀ k, av.ownBlock = some k → F k
  inv : ∀ x ∈ l, ∀ k, x.vs.ownBlock = some k → F k
  lt : ∀ k, F k → k < W.heap.size
  most_le : most ≤ 4194304
  next_le : 1 ≤ next ∧ next ≤ most
  len_le : cs.length ≤ most
  small : ∀ c ∈ cs, c < 18446744073709551616

def Bank (W : World) (F : Nat → Prop) (b : Nat) (most next : Nat) (cs : List Nat) (l : List Acc) : Prop := ∃ cv av, BankAt W F b cv av most next cs l

/-- What a bank's blocks hold is all that it is. -/
theorem BankAt.kept {W W' : World} {F : Nat → Prop} {b most next : Nat} {cv av : Value} {cs : List Nat} {l : List Acc} (h : BankAt W F b cv av most next cs l) (hs : W.heap.size ≤ W'.heap.size) (hk : ∀ k, F k → W'.heap[k]? = W.heap[k]?) : BankAt W' F b cv av most next cs l :=
  ⟨(hk b h.inb).trans h.blk, row_kept h.row fun k e => hk k (h.inc k e), row_kept h.acc fun k e => hk k (h.ina k e), fun x hx => row_kept (h.vals x hx) fun k e => hk k (h.inv x hx k e), h.ne, h.inb, h.inc, h.ina, h.inv,
    fun k e => Nat.lt_of_lt_of_le (h.lt k e) hs, h.most_le, h.next_le, h.len_le, h.small⟩
theorem Bank.kept {W W' : World} {F : Nat → Prop} {b most next : Nat} {cs : List Nat} {l : List Acc} (h : Bank W F b most next cs l) (hs : W.heap.size ≤ W'.heap.size) (hk : ∀ k, F k → W'.heap[k]? = W.heap[k]?) : Bank W' F b most next cs l :=
  let ⟨cv, av, h⟩ := h; ⟨cv, av, h.kept hs hk⟩
theorem Bank.chg {W W' : World} {F G : Nat → Prop} {b most next : Nat} {cs : List Nat} {l : List Acc} (h : Bank W F b most next cs l) (hc : Chg G W W') (hd : ∀ k, F k → ¬ G k) : Bank W' F b most next cs l :=
  let ⟨_, _, h0⟩ := h; h.kept hc.size fun k e => hc.block k (h0.lt k e) (hd k e)

theorem u64_lt {x : Nat} (h : x < 18446744073709551616) : IntKind.u64.wrap (x : Int) = (x : Int) := by rw [IntKind.wrap_u64]; omega
theorem slice_of {W : World} {e : TypeId} {s n : Nat} {v : Value} {xs : List Value} (h : W.ownsRow 0 e s v n xs) : ∃ p c, v = .slice p n c := by
  rcases h.2 with ⟨rfl, rfl⟩ | ⟨g, cap, cur, rfl, _⟩
  · exact ⟨_, _, rfl⟩
  · exact ⟨_, _, rfl⟩
theorem slice_pos {W : World} {e : TypeId} {s n : Nat} {v : Value} {xs : List Value} (h : W.ownsRow 0 e s v n xs) (hn : 0 < n) : ∃ g c, v = .slice (some ⟨g, 0, none⟩) n c := by
  rcases h.2 with ⟨rfl, rfl⟩ | ⟨g, cap, cur, rfl, _⟩
  · omega
  · exact ⟨g, cap, rfl⟩
end Go.Proofs.YtmmaniolaljjlaaGreatDoor
/- The bank of a plain memory: it reaches out, stores, compares and adds. -/
namespace Go.Proofs.YtmmaniolaljjlaaGreatDoor
open Go.RowKit Go.Shelf

theorem infoU : (Tryz.prog.info? 23).map (fun i => (i.zero, i.size, i.bytes)) = some (some (.int .u64 0), 1, 8) := by kernel_rfl

/-- From one footprint to another: what has changed lay in the first, what is new in the second is new. -/
structure Goes (W W' : World) (F F' : Nat → Prop) : Prop where
  chg : Chg F W W'
  new : ∀ k, F' k → F k ∨ W.heap.size ≤ k
theorem Goes.refl (W : World) (F : Nat → Prop) : Goes W W F F := ⟨Chg.refl F W, fun _ h => .inl h⟩
theorem Goes.trans {W W1 W2 : World} {F F1 F2 : Nat → Prop} (h : Goes W W1 F F1) (k : Goes W1 W2 F1 F2) : Goes W W2 F F2 :=
  ⟨h.chg.trans k.chg (fun _ _ x => x) (fun i hi x => (h.new i x).resolve_right (by omega)), fun i x => (k.new i x).elim (h.new i) (fun y => .inr (Nat.le_trans h.chg.size y))⟩

def padN (cs : List Nat) (n : Nat) : List Nat := cs ++ List.replicate (n - cs.length) 0
theorem padN_length (cs : List Nat) (n : Nat) : (padN cs n).length = max cs.length n := by simp [padN]; omega
theorem padN_cell (cs : List Nat) (n i : Nat) : cellN (padN cs n) i = cellN cs i := by
  simp only [cellN, padN, List.getD_eq_getElem?_getD, List.getElem?_append, List.getElem?_replicate]
  split
  · rfl
  · rw [List.getElem?_eq_none (by omega)]
    split <;> rfl
theorem padN_id (cs : List Nat) (n : Nat) (h : n ≤ cs.length) : padN cs n = cs := by simp [padN, show n - cs.length = 0 by omega]
def putN (cs : List Nat) (i v : Nat) : List Nat := (padN cs (i + 1)).set i v
theorem putN_cell (cs : List Nat) (i v j : Nat) : cellN (putN cs i v) j = if j = i then v else cellN cs j := by
  have hl := padN_length cs (i + 1)
  by_cases h : j = i
  · subst h
    simp only [cellN, putN, List.getD_eq_getElem?_getD, List.getElem?_set]
    simp [show j < (padN cs (j + 1)).length by omega]
  · rw [if_neg h, ← padN_cell cs (i + 1) j]
    simp only [cellN, putN, List.getD_eq_getElem?_getD, List.getElem?_set]
    simp [Ne.symm h]

set_option maxRecDepth 100000 in
theorem p_reach (b most next count : Nat) (F : Nat → Prop) (cs : List Nat) (l : List Acc) (W : World) (h : Bank W F b most next cs l) (hc : count ≤ most) :
    Calls Tryz.prog 202 #[.pointer (some ⟨b, 0, none⟩), .int .i64 (count : Int)] W fun e W' => e = .returned (.tuple #[]) ∧ ∃ F', Bank W' F' b most next (padN cs count) l ∧ Goes W W' F F' := by
  obtain ⟨i0, hi, hz0, hz1, hz2⟩ := info_parts infoU
  obtain ⟨cv, av, h⟩ := h
  have c0 : W.cell? ⟨b, 0, none⟩ = some cv := cell_of h.blk 0
  have f0 := free_of h.blk 0
  have hml := h.most_le
  have hll := h.len_le
  by_cases h1 : count ≤ cs.length
  · have ti : ¬ (0 : Int) < (count : Int) - (cs.length : Int) := by omega
    have wl : IntKind.i64.wrap ((count : Int) - (cs.length : Int)) = (count : Int) - (cs.length : Int) := by rw [IntKind.wrap_i64]; omega
    have H := keepH h
    obtain ⟨p, c, rfl⟩ := slice_of h.row
    clear h
    go_enter Tryz.func202, Tryz.ntmps202
    go_wp2_with fail
    go_end0
    exact ⟨rfl, F, ⟨_, _, by rw [padN_id cs count h1]; exact H.out⟩, Goes.refl _ _⟩
  · obtain ⟨m, hmm⟩ : ∃ m, m = count - cs.length := ⟨_, rfl⟩
    have hm : 0 < m := by omega
    have wl : IntKind.i64.wrap ((count : Int) - (cs.length : Int)) = (m : Int) := by rw [IntKind.wrap_i64]; omega
    have ti : (0 : Int) < (m : Int) := by omega
    have h63 : cs.length + m ≤ 1099511627776 := by omega
    have HM := keepH hmm
    have H := keepH h
    have hrow := h.row
    obtain ⟨p, c, hcv⟩ := slice_of h.row
    have HV := keepH hcv
    have hlt := lt_of h.blk
    subst hcv
    clear h h1 hmm
    go_enter Tryz.func202, Tryz.ntmps202
    go_wp2_with (at_builtin; refine wpList_append_zeros _ rfl _ _ 26 3 rfl 23 i0 (.int .u64 0) 8 Tryz.underlying26 Tryz.underlying3 hi hz0 hz1 hz2 rfl rfl (.slice p cs.length c) cs.length _ rfl hrow m rfl hm h63 (by omega) ?_; intro v' w1 hown hgrow hwhere; obtain ⟨g', c', rfl⟩ := slice_pos hown (by omega); have hb1 := keepH ((hgrow.block b hlt (fun e => block_apart H.out.row H.out.blk (by decide) e.symm)).trans H.out.blk); have c1 := (cell_of hb1.out 0).trans rfl; have f1 := free_of hb1.out 0; have HO := keepH hown; have HW := keepH hwhere; clear hown hwhere)
    go_end0
    have h := H.out
    have hbk := HW.out
    have hg' : g' < w1.heap.size := row_lt HO.out g' rfl
    have epad : padN cs count = cs ++ List.replicate m 0 := by have := HM.out; subst this; rfl
    have en : ∀ k, F k → k ≠ b → (Value.slice p cs.length c).ownBlock ≠ some k → (w1.setCell ⟨b, 0, none⟩ (.slice (some ⟨g', 0, none⟩) (cs.length + m) c')).heap[k]? = W.heap[k]? := fun k hk hb hc => (Below.heap_setCell _ _ _ _ hb).trans (hgrow.block k (h.lt k hk) (fun e => hc e.symm))
    have gb : g' ≠ b := fun e => block_apart HO.out hb1.out (by decide) (by rw [e]; rfl)
    have hsz : (w1.setCell ⟨b, 0, none⟩ (.slice (some ⟨g', 0, none⟩) (cs.length + m) c')).heap.size = w1.heap.size := by simp [World.setCell]
    refine ⟨rfl, fun k => F k ∨ k = g', ⟨.slice (some ⟨g', 0, none⟩) (cs.length + m) c', av, ?_, ?_, ?_, ?_, ?_, .inl h.inb, ?_, fun k e => .inl (h.ina k e), fun x hx k e => .inl (h.inv x hx k e), ?_, h.most_le, h.next_le, ?_, ?_⟩, ⟨?_, ?_⟩⟩
    · have e := set_of hb1.out 0 (.slice (some ⟨g', 0, none⟩) (cs.length + m) c')
      exact e
    · rw [epad]
      have r := row_kept (W' := w1.setCell ⟨b, 0, none⟩ (.slice (some ⟨g', 0, none⟩) (cs.length + m) c')) HO.out fun k e => Below.heap_setCell _ _ _ _ (by simp [Value.ownBlock] at e; rw [← e]; exact gb)
      simpa [u64V] using r
    · exact row_kept h.acc fun k e => en k (h.ina k e) (fun e2 => block_apart h.acc h.blk (by decide) (by rw [e, e2])) (fun e2 => rows_apart h.row h.acc (by decide) k e2 e)
    · intro x hx
      exact row_kept (h.vals x hx) fun k e => en k (h.inv x hx k e) (fun e2 => block_apart (h.vals x hx) h.blk (by decide) (by rw [e, e2])) (fun e2 => h.ne x hx k e e2)
    · intro x hx k e e2
      rcases hbk with hb | hb
      · exact h.ne x hx k e (hb.symm.trans e2)
      · have := row_lt (h.vals x hx) k e
        rw [hb] at e2
        simp at e2
        omega
    · intro k e
      simp [Value.ownBlock] at e
      exact .inr e.symm
    · rw [hsz]
      rintro k (hk | rfl)
      · exact Nat.lt_of_lt_of_le (h.lt k hk) hgrow.size
      · exact hg'
    · rw [padN_length]
      omega
    · rw [epad]
      intro x hx
      rcases List.mem_append.1 hx with hx | hx
      · exact h.small x hx
      · rw [List.eq_of_mem_replicate hx]
        decide
    · exact ((Chg.refl F W).grown hgrow fun k e _ => h.inc k e).setCell (fun _ => h.inb) _
    · rintro k (hk | rfl)
      · exact .inl hk
      · rcases hbk with hb | hb
        · exact .inl (h.inc _ hb.symm)
        · simp [Value.ownBlock] at hb
          exact .inr (by omega)
end Go.Proofs.YtmmaniolaljjlaaGreatDoor
/- The bank of a plain memory: it stores, compares, adds, and tells its numbers. -/
namespace Go.Proofs.YtmmaniolaljjlaaGreatDoor
open Go.RowKit Go.Shelf

theorem BankAt.put {W : World} {F : Nat → Prop} {b g n c most next : Nat} {av : Value} {cs : List Nat} {l : List Acc} (h : BankAt W F b (.slice (some ⟨g, 0, none⟩) n c) av most next cs l) (i v : Nat) (hv : v < 18446744073709551616) :
    BankAt (W.setCell ⟨g, i, none⟩ (.int .u64 (v : Int))) F b (.slice (some ⟨g, 0, none⟩) n c) av most next (cs.set i v) l := by
  have gb : b ≠ g := fun e => block_apart h.row h.blk (by decide) (by rw [e]; rfl)
  have hn : n = cs.length := by
    rcases h.row.2 with ⟨h2, _⟩ | ⟨_, _, _, h2, _⟩
    · simp at h2
    · simp at h2; exact h2.2.1
  subst hn
  refine ⟨(Below.heap_setCell _ _ _ _ gb).trans h.blk, ?_, row_kept h.acc fun k e => Below.heap_setCell _ _ _ _ (fun e2 => rows_apart h.row h.acc (by decide) g rfl (by rw [e, e2])), fun x hx => row_kept (h.vals x hx) fun k e => Below.heap_setCell _ _ _ _ (fun e2 => h.ne x hx k e (by rw [e2]; rfl)), h.ne, h.inb, h.inc, h.ina, h.inv, fun k e => by simpa [World.setCell] using h.lt k e, h.most_le, h.next_le, by simpa using h.len_le, ?_⟩
  · have r := World.ownsRow.stored h.row i (.int .u64 (v : Int))
    rw [List.length_set]
    rw [List.map_set]
    exact r.1
  · intro x hx
    rcases List.mem_or_eq_of_mem_set hx with hx | hx
    · exact h.small x hx
    · omega
theorem BankAt.len {W : World} {F : Nat → Prop} {b most next : Nat} {cv av : Value} {cs : List Nat} {l : List Acc} (h : BankAt W F b cv av most next cs l) (hp : 0 < cs.length) : ∃ g c, cv = .slice (some ⟨g, 0, none⟩) cs.length c := slice_pos h.row hp
theorem Bank.drewN {W : World} {F : Nat → Prop} {b most next : Nat} {cs : List Nat} {l : List Acc} (h : Bank W F b most next cs l) (q : Nat) : Bank (W.drewN q) F b most next cs l := h.kept (Nat.le_refl _) fun _ _ => rfl
theorem Goes.drewN (W : World) (F : Nat → Prop) (q : Nat) : Goes W (W.drewN q) F F := ⟨⟨rfl, rfl, rfl, Nat.le_refl _, fun _ _ _ => rfl⟩, fun _ h => .inl h⟩

/-- What a store leaves. -/
def stN (most : Nat) (cs : List Nat) (addr v : Nat) : List Nat := if addr < most then putN cs addr v else cs
theorem stN_cell (most : Nat) (cs : List Nat) (addr v j : Nat) : cellN (stN most cs addr v) j = if j = addr ∧ addr < most then v else cellN cs j := by
  unfold stN
  by_cases h : addr < most
  · rw [if_pos h, putN_cell]
    simp [h]
  · simp [h]

set_option maxRecDepth 100000 in
theorem p_left (b most next : Nat) (F : Nat → Prop) (cs : List Nat) (l : List Acc) (W : World) (h : Bank W F b most next cs l) :
    Calls Tryz.prog 195 #[.pointer (some ⟨b, 0, none⟩)] W fun e W' => e = .returned (.int .i64 ((most - next : Nat) : Int)) ∧ ∃ q, W' = W.drewN q := by
  obtain ⟨cv, av, h⟩ := h
  have c1 : W.cell? ⟨b, 1, none⟩ = some (.int .i64 (most : Int)) := cell_of h.blk 1
  have c2 : W.cell? ⟨b, 2, none⟩ = some (.int .i64 (next : Int)) := cell_of h.blk 2
  have hml := h.most_le
  have hn := h.next_le
  have wl : IntKind.i64.wrap ((most : Int) - (next : Int)) = ((most - next : Nat) : Int) := by rw [IntKind.wrap_i64]; omega
  clear h
  go_enter Tryz.func195, Tryz.ntmps195
  go_wp2_with fail
  go_quiet (fail)
  go_wp2_with fail
  go_ret
  exact ⟨by simp, _, rfl⟩
end Go.Proofs.YtmmaniolaljjlaaGreatDoor
