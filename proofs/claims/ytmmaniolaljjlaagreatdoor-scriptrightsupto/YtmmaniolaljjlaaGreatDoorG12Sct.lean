/- The numbers that are read go into an operation, by the program. (mkScn.py) -/
import Derived.Test.YtmmaniolaljjlaaGreatDoorG11Scm
namespace Go.Proofs.YtmmaniolaljjlaaGreatDoor
open Go.RowKit Go.Shelf
set_option linter.unusedVariables false

def frow (row : Array Value) (ns us : List Nat) : Array Value := (ns.zip us).foldl (fun r p => r.setIfInBounds p.1 (.int .u64 (p.2 : Int))) row
def fk (k : Nat) (us : List Nat) (o : Nat) : Nat := match (numK k).findIdx? (· == o) with | some i => us.getD i 0 | none => 0
theorem frow_next (row : Array Value) {ns us : List Nat} {i m u : Nat} (h : ns[i]? = some m) (hu : us[i]? = some u) : frow row (ns.take (i + 1)) us = (frow row (ns.take i) us).setIfInBounds m (.int .u64 (u : Int)) := by
  have e : ∀ (i : Nat) (ns us : List Nat), ns[i]? = some m → us[i]? = some u → (ns.take (i + 1)).zip us = (ns.take i).zip us ++ [(m, u)] := by
    intro i
    induction i with
    | zero =>
      intro ns us h hu
      match ns, us, h, hu with
      | a :: ns, b :: us, h, hu => simp at h hu; subst h hu; simp
    | succ i ih =>
      intro ns us h hu
      match ns, us, h, hu with
      | a :: ns, b :: us, h, hu =>
        have := ih ns us (by simpa using h) (by simpa using hu)
        simp only [List.take_succ_cons, List.zip_cons_cons, List.cons_append, List.cons.injEq, true_and]
        exact this
  unfold frow
  rw [e i ns us h hu]
  simp
theorem frow_size (l : List (Nat × Nat)) : ∀ row : Array Value, (l.foldl (fun r p => r.setIfInBounds p.1 (.int .u64 (p.2 : Int))) row).size = row.size := by
  induction l with
  | nil => intro row; rfl
  | cons a r ih => intro row; simp only [List.foldl_cons]; rw [ih]; simp
theorem frow_op (k hnd : Nat) (set : Bool) (rt ri : Int) (vk : Value) (us : List Nat) (hl : us.length = (numK k).length) : frow (opR k 0 0 0 hnd set rt ri vk 0 0) (numK k) us = opR k (fk k us 1) (fk k us 2) (fk k us 3) hnd set rt ri vk (fk k us 9) (fk k us 10) := by
  unfold fk frow
  unfold numK at hl ⊢
  split at hl
  · match us, hl with
    | [a], _ => simp [List.findIdx?, List.findIdx?.go]
  · match us, hl with
    | [a, b], _ => simp [List.findIdx?, List.findIdx?.go]
  · match us, hl with
    | [a], _ => simp [List.findIdx?, List.findIdx?.go]
  · match us, hl with
    | [a, b, c], _ => simp [List.findIdx?, List.findIdx?.go]
  · match us, hl with
    | [a, b], _ => simp [List.findIdx?, List.findIdx?.go]
  · match us, hl with
    | [a, b], _ => simp [List.findIdx?, List.findIdx?.go]
  · simp [List.findIdx?, List.findIdx?.go]
/-- what lies in memory while numbers go in -/
structure LS (W : World) (P F : Nat) (row fr : Array Value) (pv : Value) (ns : List Nat) (lp : Option Addr) (us : List Nat) (wr : World) : Prop where
  box : wr.heap[P]? = some (.cells row 28 (0, 0))
  fld : wr.heap[F]? = some (.cells fr 113 (0, 0))
  num : (ns = [] ∧ pv = .slice none 0 0) ∨ ∃ g, pv = .slice (some ⟨g, 0, none⟩) ns.length ns.length ∧ g ≠ P ∧ wr.heap[g]? = some (.cells (ns.map fun n => Value.pointer (some ⟨P, n, none⟩)).toArray 115 (0, 0))
  lst : us = [] ∨ ∃ g, lp = some ⟨g, 0, none⟩ ∧ g ≠ P ∧ ∀ (i x : Nat), us[i]? = some x → wr.cell? ⟨g, i, none⟩ = some (.int .u64 (x : Int))
  chg : Chg (fun b => b = P) W wr
  ne : F ≠ P
theorem LS.set {W : World} {P F : Nat} {row fr : Array Value} {pv : Value} {ns : List Nat} {lp : Option Addr} {us : List Nat} {wr : World} (h : LS W P F row fr pv ns lp us wr) (i : Nat) (v : Value) : LS W P F (row.setIfInBounds i v) fr pv ns lp us (wr.setCell ⟨P, i, none⟩ v) := by
  refine ⟨set_of h.box i v, other_of h.fld h.ne v, ?_, ?_, chg_setP h.chg i v, h.ne⟩
  · rcases h.num with x | ⟨g, h1, h2, h3⟩
    · exact .inl x
    · exact .inr ⟨g, h1, h2, other_of h3 h2 v⟩
  · rcases h.lst with x | ⟨g, h1, h2, h3⟩
    · exact .inl x
    · refine .inr ⟨g, h1, h2, fun j x hx => ?_⟩
      have := h3 j x hx
      rw [← this]
      exact World.cell?_of_block (w := wr) (Below.heap_setCell wr ⟨P, i, none⟩ v g h2)
theorem LS.ptr {W : World} {P F : Nat} {row fr : Array Value} {pp : Option Addr} {m : Nat} {ns : List Nat} {lp : Option Addr} {us : List Nat} {wr : World} (h : LS W P F row fr (.slice pp m m) ns lp us wr) {i o : Nat} (ho : ns[i]? = some o) : ∃ g, pp = some ⟨g, 0, none⟩ ∧ wr.cell? ⟨g, i, none⟩ = some (.pointer (some ⟨P, o, none⟩)) := by
  rcases h.num with ⟨rfl, _⟩ | ⟨g, h1, h2, h3⟩
  · simp at ho
  · refine ⟨g, by injection h1, ?_⟩
    rw [cell_of h3 i]
    simp [ho]
theorem LS.at {W : World} {P F : Nat} {row fr : Array Value} {pv : Value} {ns : List Nat} {lp : Option Addr} {us : List Nat} {wr : World} (h : LS W P F row fr pv ns lp us wr) {i x : Nat} (hx : us[i]? = some x) : ∃ g, lp = some ⟨g, 0, none⟩ ∧ wr.cell? ⟨g, i, none⟩ = some (.int .u64 (x : Int)) := by
  rcases h.lst with rfl | ⟨g, h1, h2, h3⟩
  · simp at hx
  · exact ⟨g, h1, h3 i x hx⟩
/-- what a filling leaves -/
def FiQ (W : World) (P k hnd : Nat) (set : Bool) (rt ri : Int) (lp : Option Addr) (us : List Nat) (c : Nat) (e : Ending) (W' : World) : Prop := Chg (fun b => b = P) W W' ∧
  ((kysK k = true ∧ ∃ ok, ok = decide (us.length ≤ 1024) ∧ e = .returned (.bool ok) ∧ W'.heap[P]? = some (.cells (opR k 0 0 0 hnd set rt ri (.slice lp us.length c) 0 0) 28 (0, 0))) ∨
   (kysK k = false ∧ us.length = (numK k).length ∧ e = .returned (.bool true) ∧ W'.heap[P]? = some (.cells (opR k (fk k us 1) (fk k us 2) (fk k us 3) hnd set rt ri (.slice none 0 0) (fk k us 9) (fk k us 10)) 28 (0, 0))) ∨
   (kysK k = false ∧ us.length ≠ (numK k).length ∧ e = .returned (.bool false)))
set_option maxRecDepth 100000 in
set_option maxHeartbeats 8000000 in
theorem fill_any (P k hnd : Nat) (set : Bool) (rt ri : Int) (h : Bool) (pp lp : Option Addr) (us : List Nat) (c : Nat) (hl : us.length ≤ 200000000) (W : World)
    (hX : W.heap[P]? = some (.cells (opR k 0 0 0 hnd set rt ri (.slice none 0 0) 0 0) 28 (0, 0)))
    (hN : (numK k = [] ∧ Value.slice pp (numK k).length (numK k).length = .slice none 0 0) ∨ ∃ g, Value.slice pp (numK k).length (numK k).length = .slice (some ⟨g, 0, none⟩) (numK k).length (numK k).length ∧ g ≠ P ∧ W.heap[g]? = some (.cells ((numK k).map fun n => Value.pointer (some ⟨P, n, none⟩)).toArray 115 (0, 0)))
    (hU : us = [] ∨ ∃ g, lp = some ⟨g, 0, none⟩ ∧ g ≠ P ∧ ∀ (i x : Nat), us[i]? = some x → W.cell? ⟨g, i, none⟩ = some (.int .u64 (x : Int))) :
    Calls Tryz.prog 79 #[.pointer (some ⟨P, 0, none⟩), .agg #[.bool h, .slice pp (numK k).length (numK k).length, .bool (kysK k)], .slice lp us.length c] W (FiQ W P k hnd set rt ri lp us c) := by
  obtain ⟨m, hm⟩ : ∃ m, m = (numK k).length := ⟨_, rfl⟩
  rw [← hm] at hN ⊢
  obtain ⟨n, hn⟩ : ∃ n, n = us.length := ⟨_, rfl⟩
  rw [← hn] at hl ⊢
  obtain ⟨kb, hkb⟩ : ∃ d, d = kysK k := ⟨_, rfl⟩
  rw [← hkb]
  obtain ⟨w1, hw1⟩ : ∃ w1, w1 = W.alloc (.cells #[.bool h, .slice pp m m, .bool kb] 113) := ⟨_, rfl⟩
  obtain ⟨F, hF⟩ : ∃ F, F = W.heap.size := ⟨_, rfl⟩
  have B1 : Below W.heap.size W w1 := by rw [hw1]; exact below_alloc _ _
  have S1 : LS W P F (opR k 0 0 0 hnd set rt ri (.slice none 0 0) 0 0) #[.bool h, .slice pp m m, .bool kb] (.slice pp m m) (numK k) lp us w1 := by
    have hx := (Array.getElem?_eq_some_iff.1 hX).1
    refine ⟨heap_below hX B1, by rw [hw1, hF]; exact heap_alloc_new _ _, ?_, ?_, chg_of_below B1, by omega⟩
    · rw [← hm]
      rcases hN with x | ⟨g, q1, q2, q3⟩
      · exact .inl x
      · exact .inr ⟨g, q1, q2, heap_below q3 B1⟩
    · rcases hU with x | ⟨g, q1, q2, q3⟩
      · exact .inl x
      · exact .inr ⟨g, q1, q2, fun i x hx => cell_below (q3 i x hx) B1⟩
  have HS1 := keepH S1
  have HW1 := keepH hw1
  have HF := keepH hF
  have HM := keepH hm
  have HN := keepH hn
  have HKB := keepH hkb
  have HLT := keepH (numK_lt k)
  have HTM := keepH (fun w => too_any k 0 0 0 hnd set rt ri lp n c 0 0 w)
  have hm3 : m ≤ 3 := by rw [hm]; exact numK_len k
  have HFO := keepH (fun hl => frow_op k hnd set rt ri (.slice none 0 0) us hl)
  clear hX hN hU hw1 hF B1 S1 hm hn hkb
  cases kb with
  | true =>
    have hk70 : k = 7 := by have := HKB.out; unfold kysK at this; simpa using this
    have HK7 := keepH hk70
    clear hk70
    have f2 : w1.cell? ⟨F, 2, none⟩ = some (.bool true) := cell_of HS1.out.fld 2
    have p8 : w1.cell? ⟨P, 8, none⟩ = _ := cell_of HS1.out.box 8
    have q8 : w1.frozen? ⟨P, 8, none⟩ = false := free_of HS1.out.box 8
    obtain ⟨w2, hw2⟩ : ∃ w2, w2 = w1.setCell ⟨P, 8, none⟩ (.slice lp n c) := ⟨_, rfl⟩
    have HX2 : Hid (w2.heap[P]? = some (.cells (opR k 0 0 0 hnd set rt ri (.slice lp n c) 0 0) 28 (0, 0))) := keepH (by rw [hw2]; exact set_of HS1.out.box 8 _)
    have HC2 : Hid (Chg (fun b => b = P) W w2) := keepH (by rw [hw2]; exact chg_setP HS1.out.chg 8 _)
    have HW2 := keepH hw2
    clear hw2
    go_enter Tryz.func79, Tryz.ntmps79
    go_upto_region 1 with fail
    rw [← HW1.out, ← HF.out]
    go_upto_region 3 with fail
    rw [← HW2.out]
    clear f2 p8 q8
    have d0 : w2.cell? ⟨P, 0, none⟩ = _ := cell_of HX2.out 0
    have d1 : w2.cell? ⟨P, 1, none⟩ = _ := cell_of HX2.out 1
    have d2 : w2.cell? ⟨P, 2, none⟩ = _ := cell_of HX2.out 2
    have d3 : w2.cell? ⟨P, 3, none⟩ = _ := cell_of HX2.out 3
    have d4 : w2.cell? ⟨P, 4, none⟩ = _ := cell_of HX2.out 4
    have d5 : w2.cell? ⟨P, 5, none⟩ = _ := cell_of HX2.out 5
    have d6 : w2.cell? ⟨P, 6, none⟩ = _ := cell_of HX2.out 6
    have d7 : w2.cell? ⟨P, 7, none⟩ = _ := cell_of HX2.out 7
    have d8 : w2.cell? ⟨P, 8, none⟩ = _ := cell_of HX2.out 8
    have d9 : w2.cell? ⟨P, 9, none⟩ = _ := cell_of HX2.out 9
    have d10 : w2.cell? ⟨P, 10, none⟩ = _ := cell_of HX2.out 10
    go_wp2_with fail
    refine (HTM.out w2).mono ?_
    rintro e w3 ⟨rfl, B3⟩
    have HX3 := keepH (heap_below HX2.out B3)
    have HC3 := keepH (HC2.out.trans (chg_of_below (P := P) B3) (fun _ _ x => x) (fun _ _ x => x))
    have HR : Hid ((!decide (k = 7 ∧ 1024 < n)) = decide (us.length ≤ 1024)) := keepH (by
      rw [← HN.out, Bool.eq_iff_iff]
      simp [HK7.out])
    obtain ⟨dd, hdd⟩ : ∃ d, d = decide (k = 7 ∧ 1024 < n) := ⟨_, rfl⟩
    rw [← hdd] at HR ⊢
    clear B3 d0 d1 d2 d3 d4 d5 d6 d7 d8 d9 d10 hdd
    go_wp2_with fail
    go_ret
    exact ⟨HC3.out, .inl ⟨HKB.out.symm, !dd, HR.out, by simp, by rw [← HN.out]; exact HX3.out⟩⟩
  | false =>
    have f1 : w1.cell? ⟨F, 1, none⟩ = some (.slice pp m m) := cell_of HS1.out.fld 1
    have f2 : w1.cell? ⟨F, 2, none⟩ = some (.bool false) := cell_of HS1.out.fld 2
    by_cases hnm : n = m
    · subst hnm
      go_enter Tryz.func79, Tryz.ntmps79
      go_upto_region 1 with fail
      rw [← HW1.out, ← HF.out]
      go_wp2_with fail
      clear f1 f2
      go_loopw [29] (fun s wr => ∃ i : Nat, i ≤ n ∧ s = .int .i64 (i : Int) ∧ Hid (LS W P F (frow (opR k 0 0 0 hnd set rt ri (.slice none 0 0) 0 0) ((numK k).take i) us) #[.bool h, .slice pp n n, .bool false] (.slice pp n n) (numK k) lp us wr)) (fun s _ => n - (intOf s).toNat)
      case atStart => exact ⟨0, by omega, rfl, keepH (by simpa [frow] using HS1.out)⟩
      case round =>
        obtain ⟨i, him, rfl, HR⟩ := hrel
        by_cases hlt : i < n
        · have t1 : (i : Int) < (n : Int) := by omega
          have t0 : (0 : Int) ≤ (i : Int) := by omega
          obtain ⟨o, ho⟩ : ∃ o, (numK k)[i]? = some o := ⟨(numK k)[i]'(by have := HM.out; omega), List.getElem?_eq_getElem _⟩
          obtain ⟨x, hx⟩ : ∃ x, us[i]? = some x := ⟨us[i]'(by have := HN.out; omega), List.getElem?_eq_getElem _⟩
          obtain ⟨g, rfl, p0⟩ := HR.out.ptr ho
          obtain ⟨g2, rfl, p3⟩ := HR.out.at hx
          have ho11 := HLT.out o (List.mem_of_getElem? ho)
          have hsz : o < (frow (opR k 0 0 0 hnd set rt ri (.slice none 0 0) 0 0) ((numK k).take i) us).size := by unfold frow; rw [frow_size]; exact ho11
          obtain ⟨u, hu⟩ : ∃ u, (frow (opR k 0 0 0 hnd set rt ri (.slice none 0 0) 0 0) ((numK k).take i) us)[o]? = some u := ⟨_, Array.getElem?_eq_getElem hsz⟩
          have p1 : wr.cell? ⟨P, o, none⟩ = some u := (cell_of HR.out.box o).trans hu
          have p2 : wr.frozen? ⟨P, o, none⟩ = false := free_of HR.out.box o
          have hst := HR.out.set o (.int .u64 (x : Int))
          rw [← frow_next _ ho hx] at hst
          have HST := keepH hst
          clear ho hx hu hsz hst
          go_wp2_with fail
          go_roundw
          case rel => exact ⟨i + 1, by omega, by first | rfl | go_num, HST⟩
          case measure => simp [intOf]; omega
        · obtain rfl : i = n := by omega
          have t1 : ¬ (i : Int) < (i : Int) := by omega
          have hf := HR.out
          have hlu : us.length = (numK k).length := by rw [← HN.out, ← HM.out]
          rw [HM.out, List.take_length, HFO.out hlu, ← HM.out] at hf
          have HG := keepH hf
          have HLU := keepH hlu
          clear hf hlu
          go_wp2_with fail
          go_ret
          exact ⟨HG.out.chg, .inr (.inl ⟨HKB.out.symm, HLU.out, by simp, HG.out.box⟩)⟩
    · have t1 : ¬ ((n : Int) = (m : Int)) := by omega
      have u1 : ((n : Int) != (m : Int)) = true := by simpa using t1
      have HNM := keepH hnm
      go_enter Tryz.func79, Tryz.ntmps79
      go_upto_region 1 with fail
      rw [← HW1.out, ← HF.out]
      go_wp2_with fail
      go_ret
      exact ⟨HS1.out.chg, .inr (.inr ⟨HKB.out.symm, by rw [← HN.out, ← HM.out]; exact HNM.out, by simp⟩)⟩
end Go.Proofs.YtmmaniolaljjlaaGreatDoor
/- Operations that are right, and their texts: what is pure. -/
namespace Go.Proofs.YtmmaniolaljjlaaGreatDoor
open Go.RowKit Go.Shelf
set_option linter.unusedVariables false

def faultO (o : Opx) : Nat := faultN o.k o.key o.val o.old o.hnd o.set o.rt o.ri none o.keys.length 0 o.lo o.hi
def rightO (o : Opx) : Prop := o.Ok ∧ faultO o = 0
def partO (o : Opx) : List (List UInt8) := partsO o.k o.key o.val o.old o.hnd o.set o.rt o.ri o.keys o.lo o.hi
def textO (o : Opx) : List UInt8 := opT o.k o.key o.val o.old o.hnd o.set o.rt o.ri o.keys o.lo o.hi
def PQ (t : List UInt8) (ok : Bool) (o : Opx) : Prop := (ok = true → rightO o ∧ t = textO o) ∧ ∀ o', rightO o' → t = textO o' → ok = true ∧ o = o'
theorem opW_no (k : Nat) : noB 32 (opW k) := by
  unfold opW
  by_cases h : k < 11
  · have : k = 0 ∨ k = 1 ∨ k = 2 ∨ k = 3 ∨ k = 4 ∨ k = 5 ∨ k = 6 ∨ k = 7 ∨ k = 8 ∨ k = 9 ∨ k = 10 := by omega
    rcases this with rfl | rfl | rfl | rfl | rfl | rfl | rfl | rfl | rfl | rfl | rfl <;> (unfold noB; decide)
  · rw [List.getD, List.getElem?_eq_none (by show 11 ≤ k; omega)]
    exact noB_nil 32
theorem hText_no (hnd : Nat) (set : Bool) (rt ri : Int) : noB 32 (hText hnd set rt ri) := by
  unfold hText
  split
  · have h1 := itoa_no rt 32 (by decide)
    have h2 := itoa_no ri 32 (by decide)
    refine ((noB.append ?_ h1).append ?_).append h2 <;> (unfold noB; decide)
  · exact (dec_no hnd).1
theorem part_no (o : Opx) : ∀ f ∈ partO o, noB 32 f := by
  intro f hf
  unfold partO partsO at hf
  simp only [List.mem_append, List.mem_map, List.mem_singleton] at hf
  rcases hf with ((rfl | hf) | ⟨i, _, rfl⟩) | hf
  · exact opW_no _
  · split at hf
    · simp at hf; subst hf; exact hText_no _ _ _ _
    · simp at hf
  · exact (dec_no _).1
  · split at hf
    · obtain ⟨u, hu, rfl⟩ := List.mem_map.1 hf
      exact (dec_no _).1
    · simp at hf
theorem part_ne (o : Opx) : partO o ≠ [] := by unfold partO partsO; simp
theorem text_iff (t : List UInt8) (o : Opx) : t = textO o ↔ Lib.split t [32] = partO o := by
  constructor
  · intro h
    rw [h]
    exact split_join _ (part_ne o) (part_no o)
  · intro h
    have := join_split t
    rw [h] at this
    exact this.symm
theorem natsM_some : ∀ {fs : List (List UInt8)} {us : List Nat}, fs.mapM natP = some us → fs = us.map Lib.decDigits ∧ ∀ u ∈ us, isU u
  | [], us, h => by simp at h; subst h; exact ⟨rfl, fun u hu => by simp at hu⟩
  | f :: r, us, h => by
    simp only [List.mapM_cons, Option.bind_eq_bind, Option.bind_eq_some_iff, Option.pure_def, Option.some.injEq] at h
    obtain ⟨b, hb, r', hr', rfl⟩ := h
    obtain ⟨e, hu⟩ := natP_some hb
    obtain ⟨e2, hu2⟩ := natsM_some hr'
    refine ⟨by rw [e, e2]; rfl, fun u hm => ?_⟩
    rcases List.mem_cons.1 hm with rfl | hm
    · exact hu
    · exact hu2 u hm
theorem natsM_dec : ∀ (us : List Nat), (∀ u ∈ us, isU u) → (us.map Lib.decDigits).mapM natP = some us
  | [], _ => rfl
  | u :: r, h => by
    simp only [List.map_cons, List.mapM_cons, natP_dec u (h u (by simp)), natsM_dec r (fun x hx => h x (by simp [hx]))]
    rfl
def nuO (o : Opx) : List Nat := (numK o.k).map (numAt o.key o.val o.old o.lo o.hi) ++ o.keys
structure RP (o : Opx) : Prop where
  has : hasK o.k = true
  parts : partO o = opW o.k :: ((if hndK o.k = true then [hText o.hnd o.set o.rt o.ri] else []) ++ (nuO o).map Lib.decDigits)
  hd : hndK o.k = true → rhB o.hnd o.set o.rt o.ri = true
  nohd : hndK o.k = false → o.hnd = 0 ∧ o.set = false ∧ o.rt = 0 ∧ o.ri = 0
  kys : kysK o.k = true → o.keys.length ≤ 1024
  nokys : kysK o.k = false → o.keys = []
  z1 : 1 ∉ numK o.k → o.key = 0
  z2 : 2 ∉ numK o.k → o.val = 0
  z3 : 3 ∉ numK o.k → o.old = 0
  z9 : 9 ∉ numK o.k → o.lo = 0
  z10 : 10 ∉ numK o.k → o.hi = 0
theorem right_parts {o : Opx} (h : rightO o) : RP o := by
  have hf := h.2
  unfold faultO faultN at hf
  cases e1 : hasK o.k with
  | false => rw [if_pos e1] at hf; simp at hf
  | true =>
    rw [if_neg (by rw [e1]; simp)] at hf
    split at hf
    · simp at hf
    · rename_i h7
      split at hf
      · simp at hf
      · rename_i hr
        have key : ∀ c : Bool, (if c = true then 0 else 52) = 0 → c = true := fun c h => by
          cases c with
          | true => rfl
          | false => simp at h
        have hb := key _ hf
        unfold blB at hb
        simp only [decide_eq_true_eq] at hb
        obtain ⟨⟨b1, b2, b3, b4, b9, b10⟩, ⟨c1, c2, c3⟩, d⟩ := hb
        have nk : kysK o.k = false → o.keys = [] := fun hk => by
          rw [hk] at d
          simp at d
          exact d
        refine ⟨e1, ?_, ?_, ?_, ?_, nk, ?_, ?_, ?_, ?_, ?_⟩
        · unfold partO partsO nuO
          cases hk : kysK o.k with
          | true => simp
          | false => rw [nk hk]; simp
        · intro hh
          cases e : rhB o.hnd o.set o.rt o.ri with
          | true => rfl
          | false => exact absurd ⟨hh, e⟩ hr
        · intro hh
          rw [hh] at b4 c1 c2 c3
          exact ⟨by simpa using b4, by simpa using c1, by simpa using c2, by simpa using c3⟩
        · intro hk
          have : o.k = 7 := by unfold kysK at hk; simpa using hk
          have := fun q => h7 ⟨this, q⟩
          omega
        · intro q; simpa [zk, q] using b1
        · intro q; simpa [zk, q] using b2
        · intro q; simpa [zk, q] using b3
        · intro q; simpa [zk, q] using b9
        · intro q; simpa [zk, q] using b10
theorem nu_u {o : Opx} (h : o.Ok) : ∀ u ∈ nuO o, isU u := by
  intro u hu
  unfold nuO at hu
  rcases List.mem_append.1 hu with hu | hu
  · obtain ⟨i, _, rfl⟩ := List.mem_map.1 hu
    exact numAt_u h.key h.val h.old h.lo h.hi i
  · exact h.keys u hu
theorem mk_right {o : Opx} (ok : o.Ok) (has : hasK o.k = true) (hd : hndK o.k = true → rhB o.hnd o.set o.rt o.ri = true) (nohd : hndK o.k = false → o.hnd = 0 ∧ o.set = false ∧ o.rt = 0 ∧ o.ri = 0) (kys : kysK o.k = true → o.keys.length ≤ 1024) (nokys : kysK o.k = false → o.keys = [])
    (z1 : 1 ∉ numK o.k → o.key = 0) (z2 : 2 ∉ numK o.k → o.val = 0) (z3 : 3 ∉ numK o.k → o.old = 0) (z9 : 9 ∉ numK o.k → o.lo = 0) (z10 : 10 ∉ numK o.k → o.hi = 0) : rightO o := by
  refine ⟨ok, ?_⟩
  unfold faultO faultN
  rw [if_neg (by rw [has]; simp), if_neg (by
    rintro ⟨h7, hl⟩
    have := kys (by unfold kysK; simpa using h7)
    omega), if_neg (by
    rintro ⟨h1, h2⟩
    rw [hd h1] at h2
    simp at h2), if_pos]
  unfold blB
  simp only [decide_eq_true_eq]
  have zz : ∀ i x, (i ∉ numK o.k → x = 0) → zk o.k i x = 0 := fun i x hx => by
    unfold zk
    split
    · rfl
    · rename_i q; exact hx q
  refine ⟨⟨zz 1 _ z1, zz 2 _ z2, zz 3 _ z3, ?_, zz 9 _ z9, zz 10 _ z10⟩, ⟨?_, ?_, ?_⟩, ?_⟩
  · cases e : hndK o.k with
    | true => simp
    | false => simpa using (nohd e).1
  · cases e : hndK o.k with
    | true => simp
    | false => simpa using (nohd e).2.1
  · cases e : hndK o.k with
    | true => simp
    | false => simpa using (nohd e).2.2.1
  · cases e : hndK o.k with
    | true => simp
    | false => simpa using (nohd e).2.2.2
  · cases e : kysK o.k with
    | true => simp
    | false => simpa using nokys e
theorem fk_none {k o : Nat} (us : List Nat) (h : o ∉ numK k) : fk k us o = 0 := by
  have : (numK k).findIdx? (· == o) = none := by
    rw [List.findIdx?_eq_none_iff]
    intro x hx
    simp
    intro e
    subst e
    exact h hx
  unfold fk
  rw [this]
theorem fk_u {k : Nat} {us : List Nat} (h : ∀ u ∈ us, isU u) (o : Nat) : isU (fk k us o) := by
  unfold fk
  split
  · rename_i i _
    cases e : us[i]? with
    | none => simp [List.getD, e]; unfold isU; omega
    | some x => simp [List.getD, e]; exact h x (List.mem_of_getElem? e)
  · unfold isU; omega
/-- the numbers that went in come out -/
theorem fk_nums (k : Nat) (us : List Nat) (hl : us.length = (numK k).length) : (numK k).map (numAt (fk k us 1) (fk k us 2) (fk k us 3) (fk k us 9) (fk k us 10)) = us := by
  unfold fk
  unfold numK at hl ⊢
  split at hl
  · match us, hl with
    | [a], _ => simp [List.findIdx?, List.findIdx?.go, numAt]
  · match us, hl with
    | [a, b], _ => simp [List.findIdx?, List.findIdx?.go, numAt]
  · match us, hl with
    | [a], _ => simp [List.findIdx?, List.findIdx?.go, numAt]
  · match us, hl with
    | [a, b, c], _ => simp [List.findIdx?, List.findIdx?.go, numAt]
  · match us, hl with
    | [a, b], _ => simp [List.findIdx?, List.findIdx?.go, numAt]
  · match us, hl with
    | [a, b], _ => simp [List.findIdx?, List.findIdx?.go, numAt]
  · match us, hl with
    | [], _ => simp
/-- numbers that are in the fields are the fields -/
theorem fk_of (k key val old lo hi : Nat) (z1 : 1 ∉ numK k → key = 0) (z2 : 2 ∉ numK k → val = 0) (z3 : 3 ∉ numK k → old = 0) (z9 : 9 ∉ numK k → lo = 0) (z10 : 10 ∉ numK k → hi = 0) :
    fk k ((numK k).map (numAt key val old lo hi)) 1 = key ∧ fk k ((numK k).map (numAt key val old lo hi)) 2 = val ∧ fk k ((numK k).map (numAt key val old lo hi)) 3 = old ∧ fk k ((numK k).map (numAt key val old lo hi)) 9 = lo ∧ fk k ((numK k).map (numAt key val old lo hi)) 10 = hi := by
  unfold fk
  unfold numK at *
  split at z1 <;> simp [List.findIdx?, List.findIdx?.go, numAt] at z1 z2 z3 z9 z10 ⊢ <;> simp_all
end Go.Proofs.YtmmaniolaljjlaaGreatDoor
/- A script in memory. (mkSea.py) -/
namespace Go.Proofs.YtmmaniolaljjlaaGreatDoor
open Go.RowKit Go.Shelf
set_option linter.unusedVariables false

abbrev scR (ce sl : Int) (stp : Nat) (mu : Int) (tv pv : Value) : Array Value := #[.int .i64 ce, .int .i64 sl, .int .u64 (stp : Int), .int .i64 mu, tv, pv]
def ORd (W : World) (p : Option Addr) (l : List Opx) : Prop :=
  l = [] ∨ ∃ bk off, p = some ⟨bk, off, none⟩ ∧ bk < W.heap.size ∧ ∀ (i : Nat) (o : Opx), l[i]? = some o → ∃ kp kc, KRd W kp o.keys ∧ W.cell? ⟨bk, off + i * 11, none⟩ = some (.int .u8 (o.k : Int)) ∧ W.cell? ⟨bk, off + i * 11 + 1, none⟩ = some (.int .u64 (o.key : Int)) ∧ W.cell? ⟨bk, off + i * 11 + 2, none⟩ = some (.int .u64 (o.val : Int)) ∧ W.cell? ⟨bk, off + i * 11 + 3, none⟩ = some (.int .u64 (o.old : Int)) ∧ W.cell? ⟨bk, off + i * 11 + 4, none⟩ = some (.int .u64 (o.hnd : Int)) ∧ W.cell? ⟨bk, off + i * 11 + 5, none⟩ = some (.bool o.set) ∧ W.cell? ⟨bk, off + i * 11 + 6, none⟩ = some (.int .i64 o.rt) ∧ W.cell? ⟨bk, off + i * 11 + 7, none⟩ = some (.int .i64 o.ri) ∧ W.cell? ⟨bk, off + i * 11 + 8, none⟩ = some (.slice kp o.keys.length kc) ∧ W.cell? ⟨bk, off + i * 11 + 9, none⟩ = some (.int .u64 (o.lo : Int)) ∧ W.cell? ⟨bk, off + i * 11 + 10, none⟩ = some (.int .u64 (o.hi : Int))
theorem ORd.get {W : World} {p : Option Addr} {l : List Opx} (h : ORd W p l) (i : Nat) (o : Opx) (hx : l[i]? = some o) : ∃ bk off kp kc, p = some ⟨bk, off, none⟩ ∧ bk < W.heap.size ∧ KRd W kp o.keys ∧ W.cell? ⟨bk, off + i * 11, none⟩ = some (.int .u8 (o.k : Int)) ∧ W.cell? ⟨bk, off + i * 11 + 1, none⟩ = some (.int .u64 (o.key : Int)) ∧ W.cell? ⟨bk, off + i * 11 + 2, none⟩ = some (.int .u64 (o.val : Int)) ∧ W.cell? ⟨bk, off + i * 11 + 3, none⟩ = some (.int .u64 (o.old : Int)) ∧ W.cell? ⟨bk, off + i * 11 + 4, none⟩ = some (.int .u64 (o.hnd : Int)) ∧ W.cell? ⟨bk, off + i * 11 + 5, none⟩ = some (.bool o.set) ∧ W.cell? ⟨bk, off + i * 11 + 6, none⟩ = some (.int .i64 o.rt) ∧ W.cell? ⟨bk, off + i * 11 + 7, none⟩ = some (.int .i64 o.ri) ∧ W.cell? ⟨bk, off + i * 11 + 8, none⟩ = some (.slice kp o.keys.length kc) ∧ W.cell? ⟨bk, off + i * 11 + 9, none⟩ = some (.int .u64 (o.lo : Int)) ∧ W.cell? ⟨bk, off + i * 11 + 10, none⟩ = some (.int .u64 (o.hi : Int)) := by
  rcases h with rfl | ⟨bk, off, rfl, hb, h⟩
  · simp at hx
  · obtain ⟨kp, kc, h⟩ := h i o hx
    exact ⟨bk, off, kp, kc, rfl, hb, h⟩
theorem ORd.on {W X : World} {p : Option Addr} {l : List Opx} (h : ORd W p l) (hb : Below W.heap.size W X) : ORd X p l := by
  rcases h with rfl | ⟨bk, off, rfl, hl, h⟩
  · exact .inl rfl
  · refine .inr ⟨bk, off, rfl, Nat.lt_of_lt_of_le hl hb.size, fun i o hx => ?_⟩
    obtain ⟨kp, kc, hk, a0, a1, a2, a3, a4, a5, a6, a7, a8, a9, a10⟩ := h i o hx
    exact ⟨kp, kc, hk.on hb, cell_below a0 hb, cell_below a1 hb, cell_below a2 hb, cell_below a3 hb, cell_below a4 hb, cell_below a5 hb, cell_below a6 hb, cell_below a7 hb, cell_below a8 hb, cell_below a9 hb, cell_below a10 hb⟩
def TRd (W : World) (p : Option Addr) (ts : List (List Opx)) : Prop :=
  ts = [] ∨ ∃ bk off, p = some ⟨bk, off, none⟩ ∧ bk < W.heap.size ∧ ∀ (i : Nat) (l : List Opx), ts[i]? = some l → ∃ lp lc, ORd W lp l ∧ W.cell? ⟨bk, off + i, none⟩ = some (.slice lp l.length lc)
theorem TRd.get {W : World} {p : Option Addr} {ts : List (List Opx)} (h : TRd W p ts) (i : Nat) (l : List Opx) (hx : ts[i]? = some l) : ∃ bk off lp lc, p = some ⟨bk, off, none⟩ ∧ bk < W.heap.size ∧ ORd W lp l ∧ W.cell? ⟨bk, off + i, none⟩ = some (.slice lp l.length lc) := by
  rcases h with rfl | ⟨bk, off, rfl, hb, h⟩
  · simp at hx
  · obtain ⟨lp, lc, h⟩ := h i l hx
    exact ⟨bk, off, lp, lc, rfl, hb, h⟩
theorem TRd.on {W X : World} {p : Option Addr} {ts : List (List Opx)} (h : TRd W p ts) (hb : Below W.heap.size W X) : TRd X p ts := by
  rcases h with rfl | ⟨bk, off, rfl, hl, h⟩
  · exact .inl rfl
  · refine .inr ⟨bk, off, rfl, Nat.lt_of_lt_of_le hl hb.size, fun i l hx => ?_⟩
    obtain ⟨lp, lc, h1, h2⟩ := h i l hx
    exact ⟨lp, lc, h1.on hb, cell_below h2 hb⟩
def IRd (W : World) (p : Option Addr) (l : List Int) : Prop :=
  l = [] ∨ ∃ bk off, p = some ⟨bk, off, none⟩ ∧ bk < W.heap.size ∧ ∀ (i : Nat) (x : Int), l[i]? = some x → W.cell? ⟨bk, off + i, none⟩ = some (.int .i64 x)
theorem IRd.get {W : World} {p : Option Addr} {l : List Int} (h : IRd W p l) (i : Nat) (x : Int) (hx : l[i]? = some x) : ∃ bk off, p = some ⟨bk, off, none⟩ ∧ bk < W.heap.size ∧ W.cell? ⟨bk, off + i, none⟩ = some (.int .i64 x) := by
  rcases h with rfl | ⟨bk, off, rfl, hb, h⟩
  · simp at hx
  · exact ⟨bk, off, rfl, hb, h i x hx⟩
theorem IRd.on {W X : World} {p : Option Addr} {l : List Int} (h : IRd W p l) (hb : Below W.heap.size W X) : IRd X p l := by
  rcases h with rfl | ⟨bk, off, rfl, hl, h⟩
  · exact .inl rfl
  · exact .inr ⟨bk, off, rfl, Nat.lt_of_lt_of_le hl hb.size, fun i x hx => cell_below (h i x hx) hb⟩
/-- what a script is -/
structure SOk (ts : List (List Opx)) (ps : List Int) : Prop where
  tl : ts.length ≤ 10000000
  pl : ps.length ≤ 10000000
  ll : ∀ l ∈ ts, l.length ≤ 10000000
  ok : ∀ l ∈ ts, ∀ o ∈ l, o.Ok ∧ o.keys.length ≤ 10000000
  pk : ∀ x ∈ ps, isI x
def anyO (P : Opx → Prop) (ts : List (List Opx)) : Prop := ∃ l ∈ ts, ∃ o ∈ l, P o
theorem anyO_at {P : Opx → Prop} {ts : List (List Opx)} {i j : Nat} {l : List Opx} {o : Opx} (h1 : ts[i]? = some l) (h2 : l[j]? = some o) (h : P o) : anyO P ts := ⟨l, List.mem_of_getElem? h1, o, List.mem_of_getElem? h2, h⟩
/-- none so far: in the lists ahead of i -/
def noT (P : Opx → Prop) (ts : List (List Opx)) (i : Nat) : Prop := ∀ l ∈ ts.take i, ∀ o ∈ l, ¬ P o
def noL (P : Opx → Prop) (l : List Opx) (j : Nat) : Prop := ∀ o ∈ l.take j, ¬ P o
theorem noT.zero (P : Opx → Prop) (ts : List (List Opx)) : noT P ts 0 := fun l hl => by simp at hl
theorem noL.zero (P : Opx → Prop) (l : List Opx) : noL P l 0 := fun l hl => by simp at hl
theorem noL.next {P : Opx → Prop} {l : List Opx} {j : Nat} {o : Opx} (h : noL P l j) (hx : l[j]? = some o) (hp : ¬ P o) : noL P l (j + 1) := fun x hm => by
  rw [List.take_add_one, hx] at hm
  rcases List.mem_append.1 hm with hm | hm
  · exact h x hm
  · simp at hm; subst hm; exact hp
theorem noT.next {P : Opx → Prop} {ts : List (List Opx)} {i : Nat} {l : List Opx} (h : noT P ts i) (hx : ts[i]? = some l) (hp : noL P l l.length) : noT P ts (i + 1) := fun x hm => by
  rw [List.take_add_one, hx] at hm
  rcases List.mem_append.1 hm with hm | hm
  · exact h x hm
  · simp at hm; subst hm
    intro o ho
    exact hp o (by rw [List.take_length]; exact ho)
theorem noT.all {P : Opx → Prop} {ts : List (List Opx)} (h : noT P ts ts.length) : ¬ anyO P ts := by
  rintro ⟨l, hl, o, ho, hp⟩
  exact h l (by rw [List.take_length]; exact hl) o ho hp
def tooO (o : Opx) : Prop := o.k = 7 ∧ 1024 < o.keys.length
instance (o : Opx) : Decidable (tooO o) := by unfold tooO; infer_instance
def longT (ts : List (List Opx)) (ps : List Int) : Prop := (∃ l ∈ ts, 4096 < l.length) ∨ 64 < ts.length ∨ 1048576 < ps.length
end Go.Proofs.YtmmaniolaljjlaaGreatDoor
/- Is anything of a script too long? By the program. -/
namespace Go.Proofs.YtmmaniolaljjlaaGreatDoor
open Go.RowKit Go.Shelf
set_option linter.unusedVariables false

instance (ts : List (List Opx)) (ps : List Int) : Decidable (longT ts ps) := by unfold longT; infer_instance
instance (P : Opx → Prop) [DecidablePred P] (ts : List (List Opx)) : Decidable (anyO P ts) := by unfold anyO; infer_instance
set_option maxRecDepth 100000 in
set_option maxHeartbeats 4000000 in
theorem tooLong_any (ce sl : Int) (stp : Nat) (mu : Int) (tp : Option Addr) (tc : Nat) (pp : Option Addr) (pc : Nat) (ts : List (List Opx)) (ps : List Int) (hS : SOk ts ps) (W : World) (hT : TRd W tp ts) :
    Calls Tryz.prog 47 #[.agg (scR ce sl stp mu (.slice tp ts.length tc) (.slice pp ps.length pc))] W fun e W' => e = .returned (.bool (decide (longT ts ps))) ∧ Below W.heap.size W W' := by
  obtain ⟨L, hL⟩ : ∃ L, L = decide (longT ts ps) := ⟨_, rfl⟩
  rw [← hL]
  have HLG := keepH hL
  obtain ⟨n, hn⟩ : ∃ n, n = ts.length := ⟨_, rfl⟩
  obtain ⟨m, hm⟩ : ∃ m, m = ps.length := ⟨_, rfl⟩
  have hn1 := hS.tl
  have hm1 := hS.pl
  rw [← hn] at hn1 ⊢
  rw [← hm] at hm1 ⊢
  obtain ⟨w1, hw1⟩ : ∃ w1, w1 = W.alloc (.cells (scR ce sl stp mu (.slice tp n tc) (.slice pp m pc)) 46) := ⟨_, rfl⟩
  obtain ⟨P, hP⟩ : ∃ P, P = W.heap.size := ⟨_, rfl⟩
  have B1 : Below W.heap.size W w1 := by rw [hw1]; exact below_alloc _ _
  have X1 : w1.heap[P]? = some (.cells (scR ce sl stp mu (.slice tp n tc) (.slice pp m pc)) 46 (0, 0)) := by rw [hw1, hP]; exact heap_alloc_new _ _
  have p4 : w1.cell? ⟨P, 4, none⟩ = _ := cell_of X1 4
  have p5 : w1.cell? ⟨P, 5, none⟩ = _ := cell_of X1 5
  have HN := keepH hn
  have HM := keepH hm
  have HW1 := keepH hw1
  have HP := keepH hP
  have HB1 := keepH B1
  have HT := keepH (hT.on B1)
  have HS := keepH hS
  clear hn hm hw1 hP B1 X1 hT hS hL
  go_enter Tryz.func47, Tryz.ntmps47
  go_upto_region 1 with fail
  rw [← HW1.out, ← HP.out]
  go_wp2_with fail
  go_loopw [4, 8] (fun s4 s8 wr => ∃ i : Nat, i ≤ n ∧ s8 = .int .i64 (i : Int) ∧ wr = w1 ∧ Hid (∀ l ∈ ts.take i, l.length ≤ 4096)) (fun _ s8 _ => n - (intOf s8).toNat)
  case atStart => exact ⟨0, by omega, rfl, rfl, keepH (fun l hl => by simp at hl)⟩
  case round =>
    obtain ⟨i, hi, rfl, rfl, HA⟩ := hrel
    by_cases hlt : i < n
    · have q1 : (i : Int) < (n : Int) := by omega
      have q0 : (0 : Int) ≤ (i : Int) := by omega
      obtain ⟨l, hl⟩ : ∃ l, ts[i]? = some l := ⟨ts[i]'(by have := HN.out; omega), List.getElem?_eq_getElem _⟩
      obtain ⟨bk, off, lp, lc, rfl, hbk, hO, c0⟩ := HT.out.get i l hl
      obtain ⟨k, hk⟩ : ∃ k, k = l.length := ⟨_, rfl⟩
      have hk1 := HS.out.ll l (List.mem_of_getElem? hl)
      rw [← hk] at c0 hk1
      have HX := keepH hl
      have HK := keepH hk
      clear hl hk hbk hO
      by_cases h4 : 4096 < k
      · have q4 : (k : Int) > 4096 := by omega
        have HE : Hid (L = true) := keepH (by rw [HLG.out]; simp only [decide_eq_true_eq]; exact .inl ⟨l, List.mem_of_getElem? HX.out, by have := HK.out; omega⟩)
        clear h4
        go_wp2_with fail
        go_ret
        exact ⟨by rw [HE.out]; rfl, HB1.out⟩
      · have q4 : ¬ (k : Int) > 4096 := by omega
        have HNX : Hid (∀ l ∈ ts.take (i + 1), l.length ≤ 4096) := keepH (fun x hx => by
          rw [List.take_add_one, HX.out] at hx
          rcases List.mem_append.1 hx with hx | hx
          · exact HA.out x hx
          · simp at hx; subst hx; have := HK.out; omega)
        clear h4
        go_wp2_with fail
        go_roundw
        case rel => exact ⟨i + 1, by omega, by first | rfl | go_num, by trivial, HNX⟩
        case measure => simp [intOf]; omega
    · obtain rfl : i = n := by omega
      have q1 : ¬ (i : Int) < (i : Int) := by omega
      have HE : Hid (L = (decide (64 < i) || decide (1048576 < m))) := keepH (by
        rw [HLG.out, ← Bool.decide_or, decide_eq_decide]
        unfold longT
        rw [← HN.out, ← HM.out]
        constructor
        · rintro (⟨l, hl, h4⟩ | h)
          · have := HA.out l (by rw [HN.out, List.take_length]; exact hl)
            omega
          · exact h
        · exact .inr)
      by_cases h6 : 64 < i
      · have q6 : (i : Int) > 64 := by omega
        have HE2 : Hid (L = true) := keepH (by rw [HE.out]; simp [h6])
        clear h6
        go_wp2_with fail
        go_ret
        exact ⟨by rw [HE2.out]; rfl, HB1.out⟩
      · have q6 : ¬ (i : Int) > 64 := by omega
        by_cases h7 : 1048576 < m
        · have q7 : (m : Int) > 1048576 := by omega
          have HE2 : Hid (L = true) := keepH (by rw [HE.out]; simp [h7])
          clear h6 h7
          go_wp2_with fail
          go_ret
          exact ⟨by rw [HE2.out]; rfl, HB1.out⟩
        · have q7 : ¬ (m : Int) > 1048576 := by omega
          have HE2 : Hid (L = false) := keepH (by rw [HE.out]; simp [h6, h7])
          clear h6 h7
          go_wp2_with fail
          go_ret
          exact ⟨by rw [HE2.out]; rfl, HB1.out⟩
set_option maxRecDepth 100000 in
set_option maxHeartbeats 4000000 in
theorem anyToo_any (ce sl : Int) (stp : Nat) (mu : Int) (tp : Option Addr) (tc : Nat) (pv : Value) (ts : List (List Opx)) (ps : List Int) (hS : SOk ts ps) (hpv : pv.oneCell' = true) (W : World) (hT : TRd W tp ts) :
    Calls Tryz.prog 48 #[.agg (scR ce sl stp mu (.slice tp ts.length tc) pv)] W fun e W' => e = .returned (.bool (decide (anyO tooO ts))) ∧ Below W.heap.size W W' := by
  obtain ⟨L, hL⟩ : ∃ L, L = decide (anyO tooO ts) := ⟨_, rfl⟩
  rw [← hL]
  have HLG := keepH hL
  obtain ⟨n, hn⟩ : ∃ n, n = ts.length := ⟨_, rfl⟩
  have hn1 := hS.tl
  rw [← hn] at hn1 ⊢
  obtain ⟨w1, hw1⟩ : ∃ w1, w1 = W.alloc (.cells (scR ce sl stp mu (.slice tp n tc) pv) 46) := ⟨_, rfl⟩
  obtain ⟨P, hP⟩ : ∃ P, P = W.heap.size := ⟨_, rfl⟩
  have B1 : Below W.heap.size W w1 := by rw [hw1]; exact below_alloc _ _
  have X1 : w1.heap[P]? = some (.cells (scR ce sl stp mu (.slice tp n tc) pv) 46 (0, 0)) := by rw [hw1, hP]; exact heap_alloc_new _ _
  have p4 : w1.cell? ⟨P, 4, none⟩ = _ := cell_of X1 4
  have HN := keepH hn
  have HW1 := keepH hw1
  have HP := keepH hP
  have HB1 := keepH B1
  have HT := keepH (hT.on B1)
  have HS := keepH hS
  clear hn hw1 hP B1 X1 hT hS hL
  go_enter Tryz.func48, Tryz.ntmps48
  go_upto_region 1 with fail
  rw [← HW1.out, ← HP.out]
  go_wp2_with fail
  go_loopw [4, 6, 10] (fun s4 s6 s10 wr => ∃ i : Nat, i ≤ n ∧ s10 = .int .i64 (i : Int) ∧ Hid (Below w1.heap.size w1 wr) ∧ Hid (noT tooO ts i)) (fun _ _ s10 _ => n - (intOf s10).toNat)
  case atStart => exact ⟨0, by omega, rfl, keepH (Below.refl _ _), keepH (noT.zero _ _)⟩
  case round =>
    clear p4
    obtain ⟨i, hi, rfl, HBW, HA⟩ := hrel
    by_cases hlt : i < n
    · have q1 : (i : Int) < (n : Int) := by omega
      have q0 : (0 : Int) ≤ (i : Int) := by omega
      obtain ⟨l, hl⟩ : ∃ l, ts[i]? = some l := ⟨ts[i]'(by have := HN.out; omega), List.getElem?_eq_getElem _⟩
      obtain ⟨bk, off, lp, lc, rfl, hbk, hO, c0⟩ := (HT.out.on HBW.out).get i l hl
      obtain ⟨k, hk⟩ : ∃ k, k = l.length := ⟨_, rfl⟩
      have hk1 := HS.out.ll l (List.mem_of_getElem? hl)
      rw [← hk] at c0 hk1
      have HX := keepH hl
      have HK := keepH hk
      have HO := keepH hO
      clear hl hk hbk hO
      obtain ⟨wo, hwo⟩ : ∃ wo, wo = wr := ⟨_, rfl⟩
      subst hwo
      go_wp2_with fail
      clear c0
      go_loopw [6, 16] (fun s6 s16 wr => ∃ j : Nat, j ≤ k ∧ s16 = .int .i64 (j : Int) ∧ Hid (Below wo.heap.size wo wr) ∧ Hid (noL tooO l j)) (fun _ s16 _ => k - (intOf s16).toNat)
      case atStart => exact ⟨0, by omega, rfl, keepH (Below.refl _ _), keepH (noL.zero _ _)⟩
      case round =>
        obtain ⟨j, hj, rfl, HBX, HAL⟩ := hrel
        by_cases hlj : j < k
        · have r1 : (j : Int) < (k : Int) := by omega
          have r0 : (0 : Int) ≤ (j : Int) := by omega
          obtain ⟨o, ho⟩ : ∃ o, l[j]? = some o := ⟨l[j]'(by have := HK.out; omega), List.getElem?_eq_getElem _⟩
          obtain ⟨bk2, off2, kp, kc, rfl, hbk2, hKR, a0, a1, a2, a3, a4, a5, a6, a7, a8, a9, a10⟩ := (HO.out.on HBX.out).get j o ho
          have HY := keepH ho
          obtain ⟨ok, key, val, old, hnd, set, rt, ri, keys, lo, hi2⟩ := o
          simp only at a0 a1 a2 a3 a4 a5 a6 a7 a8 a9 a10
          obtain ⟨nk, hnk⟩ : ∃ nk, nk = keys.length := ⟨_, rfl⟩
          rw [← hnk] at a8
          obtain ⟨w3, hw3⟩ : ∃ w3, w3 = wr.alloc (.cells (opR ok key val old hnd set rt ri (.slice kp nk kc) lo hi2) 28) := ⟨_, rfl⟩
          obtain ⟨D, hD⟩ : ∃ D, D = wr.heap.size := ⟨_, rfl⟩
          have C3 : Below wr.heap.size wr w3 := by rw [hw3]; exact below_alloc _ _
          have X3 : w3.heap[D]? = some (.cells (opR ok key val old hnd set rt ri (.slice kp nk kc) lo hi2) 28 (0, 0)) := by rw [hw3, hD]; exact heap_alloc_new _ _
          have HB3 := keepH (below_chain HBX.out C3)
          have HTO := keepH (too_any ok key val old hnd set rt ri kp nk kc lo hi2 w3)
          obtain ⟨b, hb⟩ : ∃ b, b = decide (ok = 7 ∧ 1024 < nk) := ⟨_, rfl⟩
          rw [← hb] at HTO
          have HBB : Hid (b = decide (tooO ⟨ok, key, val, old, hnd, set, rt, ri, keys, lo, hi2⟩)) := keepH (by rw [hb, hnk]; rfl)
          have d0 : w3.cell? ⟨D, 0, none⟩ = _ := cell_of X3 0
          have d1 : w3.cell? ⟨D, 1, none⟩ = _ := cell_of X3 1
          have d2 : w3.cell? ⟨D, 2, none⟩ = _ := cell_of X3 2
          have d3 : w3.cell? ⟨D, 3, none⟩ = _ := cell_of X3 3
          have d4 : w3.cell? ⟨D, 4, none⟩ = _ := cell_of X3 4
          have d5 : w3.cell? ⟨D, 5, none⟩ = _ := cell_of X3 5
          have d6 : w3.cell? ⟨D, 6, none⟩ = _ := cell_of X3 6
          have d7 : w3.cell? ⟨D, 7, none⟩ = _ := cell_of X3 7
          have d8 : w3.cell? ⟨D, 8, none⟩ = _ := cell_of X3 8
          have d9 : w3.cell? ⟨D, 9, none⟩ = _ := cell_of X3 9
          have d10 : w3.cell? ⟨D, 10, none⟩ = _ := cell_of X3 10
          have HW3 := keepH hw3
          have HD := keepH hD
          clear ho hKR hbk2 hnk hw3 hD C3 X3 hb
          go_upto_region 7 with fail
          rw [← HW3.out, ← HD.out]
          clear HW3 HD a0 a1 a2 a3 a4 a5 a6 a7 a8 a9 a10
          cases b with
          | true =>
            go_wp2_with fail
            refine HTO.out.mono ?_
            rintro e w4 ⟨rfl, C4⟩
            have HB4 := keepH (below_chain (below_chain (below_chain HB1.out HBW.out) HB3.out) C4)
            have HE : Hid (L = true) := keepH (by rw [HLG.out]; exact decide_eq_true (anyO_at HX.out HY.out (of_decide_eq_true HBB.out.symm)))
            clear C4
            go_wp2_with fail
            go_ret
            exact ⟨by rw [HE.out]; rfl, HB4.out⟩
          | false =>
            go_wp2_with fail
            refine HTO.out.mono ?_
            rintro e w4 ⟨rfl, C4⟩
            have HB4 := keepH (below_chain HB3.out C4)
            have HNX : Hid (noL tooO l (j + 1)) := keepH (HAL.out.next HY.out (of_decide_eq_false HBB.out.symm))
            clear C4
            go_wp2_with fail
            go_roundw
            case rel => exact ⟨j + 1, by omega, by first | rfl | go_num, HB4, HNX⟩
            case measure => simp [intOf]; omega
        · obtain rfl : j = k := by omega
          have r1 : ¬ (j : Int) < (j : Int) := by omega
          have HNX : Hid (noT tooO ts (i + 1)) := keepH (HA.out.next HX.out (by rw [← HK.out]; exact HAL.out))
          have HB4 := keepH (below_chain HBW.out HBX.out)
          go_wp2_with fail
          go_roundw
          case rel => exact ⟨i + 1, by omega, by first | rfl | go_num, HB4, HNX⟩
          case measure => simp [intOf]; omega
    · obtain rfl : i = n := by omega
      have q1 : ¬ (i : Int) < (i : Int) := by omega
      have HE : Hid (L = false) := keepH (by rw [HLG.out]; exact decide_eq_false (noT.all (by rw [← HN.out]; exact HA.out)))
      have HB4 := keepH (below_chain HB1.out HBW.out)
      go_wp2_with fail
      go_ret
      exact ⟨by rw [HE.out]; rfl, HB4.out⟩
end Go.Proofs.YtmmaniolaljjlaaGreatDoor
/- The document's words, and what is wrong with an operation. (mkSct.py) -/
namespace Go.Proofs.YtmmaniolaljjlaaGreatDoor
open Go.RowKit Go.Shelf
set_option linter.unusedVariables false

theorem lit_cell (k : Nat) (hk : k < 11) : (#[.string ⟨#[]⟩, .string ⟨#[103, 101, 116]⟩, .string ⟨#[112, 117, 116]⟩, .string ⟨#[100, 101, 108, 101, 116, 101]⟩, .string ⟨#[115, 119, 97, 112]⟩, .string ⟨#[115, 110, 97, 112, 115, 104, 111, 116]⟩, .string ⟨#[114, 101, 108, 101, 97, 115, 101]⟩, .string ⟨#[109, 117, 108, 116, 105, 103, 101, 116]⟩, .string ⟨#[114, 97, 110, 103, 101]⟩, .string ⟨#[99, 111, 117, 110, 116]⟩, .string ⟨#[99, 111, 108, 108, 101, 99, 116]⟩] : Array Value)[k]? = some (.string (mkS (opW k))) := by
  have : k = 0 ∨ k = 1 ∨ k = 2 ∨ k = 3 ∨ k = 4 ∨ k = 5 ∨ k = 6 ∨ k = 7 ∨ k = 8 ∨ k = 9 ∨ k = 10 := by omega
  rcases this with rfl | rfl | rfl | rfl | rfl | rfl | rfl | rfl | rfl | rfl | rfl <;> rfl
set_option maxRecDepth 100000 in
set_option maxHeartbeats 2000000 in
theorem dWord_any (k : Nat) (hk : k < 256) (W : World) : Calls Tryz.prog 27 #[.int .u8 (k : Int)] W fun e W' => e = .returned (.string (mkS (opW k))) ∧ Below W.heap.size W W' := by
  obtain ⟨w1, hw1⟩ : ∃ w1, w1 = W.alloc (.cells #[.string ⟨#[]⟩, .string ⟨#[103, 101, 116]⟩, .string ⟨#[112, 117, 116]⟩, .string ⟨#[100, 101, 108, 101, 116, 101]⟩, .string ⟨#[115, 119, 97, 112]⟩, .string ⟨#[115, 110, 97, 112, 115, 104, 111, 116]⟩, .string ⟨#[114, 101, 108, 101, 97, 115, 101]⟩, .string ⟨#[109, 117, 108, 116, 105, 103, 101, 116]⟩, .string ⟨#[114, 97, 110, 103, 101]⟩, .string ⟨#[99, 111, 117, 110, 116]⟩, .string ⟨#[99, 111, 108, 108, 101, 99, 116]⟩] 119) := ⟨_, rfl⟩
  obtain ⟨P, hP⟩ : ∃ P, P = W.heap.size := ⟨_, rfl⟩
  have B1 : Below W.heap.size W w1 := by rw [hw1]; exact below_alloc _ _
  have X1 : w1.heap[P]? = some (.cells #[.string ⟨#[]⟩, .string ⟨#[103, 101, 116]⟩, .string ⟨#[112, 117, 116]⟩, .string ⟨#[100, 101, 108, 101, 116, 101]⟩, .string ⟨#[115, 119, 97, 112]⟩, .string ⟨#[115, 110, 97, 112, 115, 104, 111, 116]⟩, .string ⟨#[114, 101, 108, 101, 97, 115, 101]⟩, .string ⟨#[109, 117, 108, 116, 105, 103, 101, 116]⟩, .string ⟨#[114, 97, 110, 103, 101]⟩, .string ⟨#[99, 111, 117, 110, 116]⟩, .string ⟨#[99, 111, 108, 108, 101, 99, 116]⟩] 119 (0, 0)) := by rw [hw1, hP]; exact heap_alloc_new _ _
  have HW1 := keepH hw1
  have HP := keepH hP
  have HB1 := keepH B1
  by_cases h11 : k < 11
  · have c0 : w1.cell? ⟨P, k, none⟩ = some (.string (mkS (opW k))) := (cell_of X1 k).trans (lit_cell k h11)
    have t1 : ¬ ((k : Int) ≥ 11) := by omega
    have t0 : (0 : Int) ≤ (k : Int) := by omega
    have t2 : (k : Int) < 11 := by omega
    obtain ⟨s, hs⟩ : ∃ s, s = mkS (opW k) := ⟨_, rfl⟩
    rw [← hs] at c0 ⊢
    clear hs X1 B1 hw1 hP
    go_enter Tryz.func27, Tryz.ntmps27
    go_upto_region 2 with fail
    rw [← HW1.out, ← HP.out]
    go_wp2_with fail
    go_ret
    exact ⟨by simp, HB1.out⟩
  · have t1 : ((k : Int) ≥ 11) := by omega
    have e : opW k = [] := by
      unfold opW
      rw [List.getD, List.getElem?_eq_none (by show 11 ≤ k; omega)]
      rfl
    rw [e]
    clear e X1 B1 hw1 hP
    go_enter Tryz.func27, Tryz.ntmps27
    go_upto_region 2 with fail
    rw [← HW1.out, ← HP.out]
    go_wp2_with fail
    go_ret
    exact ⟨by simp, HB1.out⟩
set_option maxRecDepth 100000 in
theorem dHandled_any (k : Nat) (W : World) : Calls Tryz.prog 28 #[.int .u8 (k : Int)] W fun e W' => e = .returned (.bool (hndK k)) ∧ W' = W := by
  by_cases h6 : 6 ≤ k
  · have t1 : ((k : Int) ≥ 6) := by omega
    have e : hndK k = decide ((k : Int) ≤ 9) := by unfold hndK; rw [decide_eq_decide]; omega
    rw [e]
    clear e
    go_enter Tryz.func28, Tryz.ntmps28
    go_wp2_with fail
    go_ret
    exact ⟨by simp, rfl⟩
  · have t1 : ¬ ((k : Int) ≥ 6) := by omega
    have e : hndK k = false := by unfold hndK; simp; omega
    rw [e]
    clear e
    go_enter Tryz.func28, Tryz.ntmps28
    go_wp2_with fail
    go_ret
    exact ⟨by simp, rfl⟩
def bareR (k key val old hnd : Nat) (set : Bool) (rt ri : Int) (lo hi : Nat) : Array Value := opR k (zk k 1 key) (zk k 2 val) (zk k 3 old) (if hndK k = true then 0 else hnd) (if hndK k = true then false else set) (if hndK k = true then 0 else rt) (if hndK k = true then 0 else ri) (.slice none 0 0) (zk k 9 lo) (zk k 10 hi)
set_option maxRecDepth 100000 in
set_option maxHeartbeats 4000000 in
theorem bare_1 (key val old hnd : Nat) (set : Bool) (rt ri : Int) (kp : Option Addr) (n kc lo hi : Nat) (W : World) : Calls Tryz.prog 94 #[.agg (opR 1 key val old hnd set rt ri (.slice kp n kc) lo hi)] W fun e W' => e = .returned (.agg (opR 1 0 val old hnd set rt ri (.slice none 0 0) lo hi)) ∧ Below W.heap.size W W' := by
  have HH := keepH (fun w => dHandled_any 1 w)
  rw [show hndK 1 = false from rfl] at HH
  go_enter Tryz.func94, Tryz.ntmps94
  go_wp2_with fail
  refine (HH.out _).mono ?_
  rintro e w ⟨rfl, rfl⟩
  go_wp2_with fail
  exact bodyPost_ret (v := .agg (opR 1 0 val old hnd set rt ri (.slice none 0 0) lo hi)) (by simp [results, Tryz.results94, go_sem]) rfl ⟨rfl, (below_alloc _ _).trans ((below_alloc _ _).mono (by simp))⟩
set_option maxRecDepth 100000 in
set_option maxHeartbeats 4000000 in
theorem bare_2 (key val old hnd : Nat) (set : Bool) (rt ri : Int) (kp : Option Addr) (n kc lo hi : Nat) (W : World) : Calls Tryz.prog 94 #[.agg (opR 2 key val old hnd set rt ri (.slice kp n kc) lo hi)] W fun e W' => e = .returned (.agg (opR 2 0 0 old hnd set rt ri (.slice none 0 0) lo hi)) ∧ Below W.heap.size W W' := by
  have HH := keepH (fun w => dHandled_any 2 w)
  rw [show hndK 2 = false from rfl] at HH
  go_enter Tryz.func94, Tryz.ntmps94
  go_wp2_with fail
  refine (HH.out _).mono ?_
  rintro e w ⟨rfl, rfl⟩
  go_wp2_with fail
  exact bodyPost_ret (v := .agg (opR 2 0 0 old hnd set rt ri (.slice none 0 0) lo hi)) (by simp [results, Tryz.results94, go_sem]) rfl ⟨rfl, (below_alloc _ _).trans ((below_alloc _ _).mono (by simp))⟩
set_option maxRecDepth 100000 in
set_option maxHeartbeats 4000000 in
theorem bare_3 (key val old hnd : Nat) (set : Bool) (rt ri : Int) (kp : Option Addr) (n kc lo hi : Nat) (W : World) : Calls Tryz.prog 94 #[.agg (opR 3 key val old hnd set rt ri (.slice kp n kc) lo hi)] W fun e W' => e = .returned (.agg (opR 3 0 val old hnd set rt ri (.slice none 0 0) lo hi)) ∧ Below W.heap.size W W' := by
  have HH := keepH (fun w => dHandled_any 3 w)
  rw [show hndK 3 = false from rfl] at HH
  go_enter Tryz.func94, Tryz.ntmps94
  go_wp2_with fail
  refine (HH.out _).mono ?_
  rintro e w ⟨rfl, rfl⟩
  go_wp2_with fail
  exact bodyPost_ret (v := .agg (opR 3 0 val old hnd set rt ri (.slice none 0 0) lo hi)) (by simp [results, Tryz.results94, go_sem]) rfl ⟨rfl, (below_alloc _ _).trans ((below_alloc _ _).mono (by simp))⟩
set_option maxRecDepth 100000 in
set_option maxHeartbeats 4000000 in
theorem bare_4 (key val old hnd : Nat) (set : Bool) (rt ri : Int) (kp : Option Addr) (n kc lo hi : Nat) (W : World) : Calls Tryz.prog 94 #[.agg (opR 4 key val old hnd set rt ri (.slice kp n kc) lo hi)] W fun e W' => e = .returned (.agg (opR 4 0 0 0 hnd set rt ri (.slice none 0 0) lo hi)) ∧ Below W.heap.size W W' := by
  have HH := keepH (fun w => dHandled_any 4 w)
  rw [show hndK 4 = false from rfl] at HH
  go_enter Tryz.func94, Tryz.ntmps94
  go_wp2_with fail
  refine (HH.out _).mono ?_
  rintro e w ⟨rfl, rfl⟩
  go_wp2_with fail
  exact bodyPost_ret (v := .agg (opR 4 0 0 0 hnd set rt ri (.slice none 0 0) lo hi)) (by simp [results, Tryz.results94, go_sem]) rfl ⟨rfl, (below_alloc _ _).trans ((below_alloc _ _).mono (by simp))⟩
set_option maxRecDepth 100000 in
set_option maxHeartbeats 4000000 in
theorem bare_6 (key val old hnd : Nat) (set : Bool) (rt ri : Int) (kp : Option Addr) (n kc lo hi : Nat) (W : World) : Calls Tryz.prog 94 #[.agg (opR 6 key val old hnd set rt ri (.slice kp n kc) lo hi)] W fun e W' => e = .returned (.agg (opR 6 key val old 0 false 0 0 (.slice none 0 0) lo hi)) ∧ Below W.heap.size W W' := by
  have HH := keepH (fun w => dHandled_any 6 w)
  rw [show hndK 6 = true from rfl] at HH
  go_enter Tryz.func94, Tryz.ntmps94
  go_wp2_with fail
  refine (HH.out _).mono ?_
  rintro e w ⟨rfl, rfl⟩
  go_wp2_with fail
  exact bodyPost_ret (v := .agg (opR 6 key val old 0 false 0 0 (.slice none 0 0) lo hi)) (by simp [results, Tryz.results94, go_sem]) rfl ⟨rfl, (below_alloc _ _).trans ((below_alloc _ _).mono (by simp))⟩
set_option maxRecDepth 100000 in
set_option maxHeartbeats 4000000 in
theorem bare_7 (key val old hnd : Nat) (set : Bool) (rt ri : Int) (kp : Option Addr) (n kc lo hi : Nat) (W : World) : Calls Tryz.prog 94 #[.agg (opR 7 key val old hnd set rt ri (.slice kp n kc) lo hi)] W fun e W' => e = .returned (.agg (opR 7 key val old 0 false 0 0 (.slice none 0 0) lo hi)) ∧ Below W.heap.size W W' := by
  have HH := keepH (fun w => dHandled_any 7 w)
  rw [show hndK 7 = true from rfl] at HH
  go_enter Tryz.func94, Tryz.ntmps94
  go_wp2_with fail
  refine (HH.out _).mono ?_
  rintro e w ⟨rfl, rfl⟩
  go_wp2_with fail
  exact bodyPost_ret (v := .agg (opR 7 key val old 0 false 0 0 (.slice none 0 0) lo hi)) (by simp [results, Tryz.results94, go_sem]) rfl ⟨rfl, (below_alloc _ _).trans ((below_alloc _ _).mono (by simp))⟩
set_option maxRecDepth 100000 in
set_option maxHeartbeats 4000000 in
theorem bare_8 (key val old hnd : Nat) (set : Bool) (rt ri : Int) (kp : Option Addr) (n kc lo hi : Nat) (W : World) : Calls Tryz.prog 94 #[.agg (opR 8 key val old hnd set rt ri (.slice kp n kc) lo hi)] W fun e W' => e = .returned (.agg (opR 8 key val old 0 false 0 0 (.slice none 0 0) 0 0)) ∧ Below W.heap.size W W' := by
  have HH := keepH (fun w => dHandled_any 8 w)
  rw [show hndK 8 = true from rfl] at HH
  go_enter Tryz.func94, Tryz.ntmps94
  go_wp2_with fail
  refine (HH.out _).mono ?_
  rintro e w ⟨rfl, rfl⟩
  go_wp2_with fail
  exact bodyPost_ret (v := .agg (opR 8 key val old 0 false 0 0 (.slice none 0 0) 0 0)) (by simp [results, Tryz.results94, go_sem]) rfl ⟨rfl, (below_alloc _ _).trans ((below_alloc _ _).mono (by simp))⟩
set_option maxRecDepth 100000 in
set_option maxHeartbeats 4000000 in
theorem bare_9 (key val old hnd : Nat) (set : Bool) (rt ri : Int) (kp : Option Addr) (n kc lo hi : Nat) (W : World) : Calls Tryz.prog 94 #[.agg (opR 9 key val old hnd set rt ri (.slice kp n kc) lo hi)] W fun e W' => e = .returned (.agg (opR 9 key val old 0 false 0 0 (.slice none 0 0) 0 0)) ∧ Below W.heap.size W W' := by
  have HH := keepH (fun w => dHandled_any 9 w)
  rw [show hndK 9 = true from rfl] at HH
  go_enter Tryz.func94, Tryz.ntmps94
  go_wp2_with fail
  refine (HH.out _).mono ?_
  rintro e w ⟨rfl, rfl⟩
  go_wp2_with fail
  exact bodyPost_ret (v := .agg (opR 9 key val old 0 false 0 0 (.slice none 0 0) 0 0)) (by simp [results, Tryz.results94, go_sem]) rfl ⟨rfl, (below_alloc _ _).trans ((below_alloc _ _).mono (by simp))⟩
set_option maxRecDepth 100000 in
set_option maxHeartbeats 4000000 in
theorem bare_x (k key val old hnd : Nat) (set : Bool) (rt ri : Int) (kp : Option Addr) (n kc lo hi : Nat) (hn : k ≠ 1 ∧ k ≠ 2 ∧ k ≠ 3 ∧ k ≠ 4 ∧ ¬ (6 ≤ k ∧ k ≤ 9)) (W : World) : Calls Tryz.prog 94 #[.agg (opR k key val old hnd set rt ri (.slice kp n kc) lo hi)] W fun e W' => e = .returned (.agg (opR k key val old hnd set rt ri (.slice none 0 0) lo hi)) ∧ Below W.heap.size W W' := by
  have HH := keepH (fun w => dHandled_any k w)
  rw [show hndK k = false by unfold hndK; simp; omega] at HH
  have t1 : ¬ ((k : Int) = 1) := by omega
  have u1 : ((k : Int) == 1) = false := by simpa using t1
  have t2 : ¬ ((k : Int) = 2) := by omega
  have u2 : ((k : Int) == 2) = false := by simpa using t2
  have t3 : ¬ ((k : Int) = 3) := by omega
  have u3 : ((k : Int) == 3) = false := by simpa using t3
  have t4 : ¬ ((k : Int) = 4) := by omega
  have u4 : ((k : Int) == 4) = false := by simpa using t4
  have t8 : ¬ ((k : Int) = 8) := by omega
  have u8 : ((k : Int) == 8) = false := by simpa using t8
  have t9 : ¬ ((k : Int) = 9) := by omega
  have u9 : ((k : Int) == 9) = false := by simpa using t9
  clear hn
  go_enter Tryz.func94, Tryz.ntmps94
  go_wp2_with fail
  refine (HH.out _).mono ?_
  rintro e w ⟨rfl, rfl⟩
  go_wp2_with fail
  exact bodyPost_ret (v := .agg (opR k key val old hnd set rt ri (.slice none 0 0) lo hi)) (by simp [results, Tryz.results94, go_sem]) rfl ⟨rfl, (below_alloc _ _).trans ((below_alloc _ _).mono (by simp))⟩
theorem bare_any (k key val old hnd : Nat) (set : Bool) (rt ri : Int) (kp : Option Addr) (n kc lo hi : Nat) (W : World) : Calls Tryz.prog 94 #[.agg (opR k key val old hnd set rt ri (.slice kp n kc) lo hi)] W fun e W' => e = .returned (.agg (bareR k key val old hnd set rt ri lo hi)) ∧ Below W.heap.size W W' := by
  by_cases hn : k ≠ 1 ∧ k ≠ 2 ∧ k ≠ 3 ∧ k ≠ 4 ∧ ¬ (6 ≤ k ∧ k ≤ 9)
  · have h := bare_x k key val old hnd set rt ri kp n kc lo hi hn W
    have e : bareR k key val old hnd set rt ri lo hi = opR k key val old hnd set rt ri (.slice none 0 0) lo hi := by
      have hk : numK k = [] := by
        unfold numK
        split <;> first | rfl | (exfalso; omega)
      have hh : hndK k = false := by unfold hndK; simp; omega
      unfold bareR zk
      rw [hk, hh]
      simp
    rw [e]
    exact h
  · have : k = 1 ∨ k = 2 ∨ k = 3 ∨ k = 4 ∨ k = 6 ∨ k = 7 ∨ k = 8 ∨ k = 9 := by omega
    rcases this with rfl | rfl | rfl | rfl | rfl | rfl | rfl | rfl
    · exact bare_1 key val old hnd set rt ri kp n kc lo hi W
    · exact bare_2 key val old hnd set rt ri kp n kc lo hi W
    · exact bare_3 key val old hnd set rt ri kp n kc lo hi W
    · exact bare_4 key val old hnd set rt ri kp n kc lo hi W
    · exact bare_6 key val old hnd set rt ri kp n kc lo hi W
    · exact bare_7 key val old hnd set rt ri kp n kc lo hi W
    · exact bare_8 key val old hnd set rt ri kp n kc lo hi W
    · exact bare_9 key val old hnd set rt ri kp n kc lo hi W
end Go.Proofs.YtmmaniolaljjlaaGreatDoor
