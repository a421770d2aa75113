/- Which lines go on, by their parts: what is pure; and what lies in memory while the program reads. -/
import Derived.Test.YtmmaniolaljjlaaGreatDoorB15Sfg
import Derived.Test.YtmmaniolaljjlaaGreatDoorB4Scb
import Derived.Test.YtmmaniolaljjlaaGreatDoorB14Scr
import Derived.Deep.MidRow
import Derived.Laws.EntriesVeiled
import Derived.Deep.RegionHeld
namespace Go.Proofs.YtmmaniolaljjlaaGreatDoor
open Go.RowKit Go.Shelf Go.Maps
set_option linter.unusedVariables false

theorem intsM_some : ∀ {fs : List (List UInt8)} {us : List Int}, fs.mapM intP = some us → fs = us.map Lib.itoa ∧ ∀ u ∈ us, isI u
  | [], us, h => by
    simp at h
    subst h
    exact ⟨rfl, fun u hu => by simp at hu⟩
  | f :: r, us, h => by
    rw [List.mapM_cons] at h
    cases hf : intP f with
    | none => rw [hf] at h; simp at h
    | some x =>
      rw [hf] at h
      cases hr : r.mapM intP with
      | none => rw [hr] at h; simp at h
      | some ys =>
        rw [hr] at h
        simp at h
        subst h
        obtain ⟨e1, e2⟩ := intsM_some hr
        obtain ⟨g1, g2, g3⟩ := intP_some hf
        exact ⟨by rw [List.map_cons, ← e1, ← g1], fun u hu => by
          rcases List.mem_cons.1 hu with rfl | hu
          · exact ⟨g2, g3⟩
          · exact e2 u hu⟩
theorem intsM_itoa : ∀ (us : List Int), (∀ u ∈ us, isI u) → (us.map Lib.itoa).mapM intP = some us
  | [], _ => rfl
  | u :: r, h => by
    have hu := h u (by simp)
    simp only [List.map_cons, List.mapM_cons, intP_itoa u hu.1 hu.2, intsM_itoa r (fun x hx => h x (by simp [hx]))]
    rfl
theorem goes_none {t : List UInt8} {x : Rdg} (h : Goes1 none t x) : ∃ ce sl stp mu, isI ce ∧ isI sl ∧ isU stp ∧ isI mu ∧ cfgE ce sl stp mu = 0 ∧ t = cfT ce sl stp mu := by
  generalize hs : (none : Option Rdg) = s at h
  cases h with
  | cfg ce sl stp mu a b c d e => exact ⟨ce, sl, stp, mu, a, b, c, d, e, rfl⟩
  | thr => cases hs
  | op => cases hs
  | pk => cases hs
theorem of_split {t f0 : List UInt8} {r0 : List (List UInt8)} (h : Lib.split t [32] = f0 :: r0) : t = Lib.join (f0 :: r0) [32] := by
  rw [← h]; exact (join_split t).symm
theorem hd_cf {t f0 : List UInt8} {r0 : List (List UInt8)} (h : Lib.split t [32] = f0 :: r0) {ce sl : Int} {stp : Nat} {mu : Int} (e : t = cfT ce sl stp mu) : f0 = cfW ∧ r0 = [Lib.itoa ce, Lib.itoa sl, Lib.decDigits stp, Lib.itoa mu] := by
  rw [e, cfT_split] at h
  simp only [cfL, List.cons.injEq] at h
  exact ⟨h.1.symm, h.2.symm⟩
theorem hd_th {t f0 : List UInt8} {r0 : List (List UInt8)} (h : Lib.split t [32] = f0 :: r0) (e : t = thW) : f0 = thW ∧ r0 = [] := by
  rw [e, thW_split] at h
  simp only [List.cons.injEq] at h
  exact ⟨h.1.symm, h.2.symm⟩
theorem hd_op {t f0 : List UInt8} {r0 : List (List UInt8)} (h : Lib.split t [32] = f0 :: r0) {o : Opx} (e : t = textO o) : f0 = opW o.k := by
  obtain ⟨r, hr⟩ := part_head o
  rw [e, textO_split, hr] at h
  simp only [List.cons.injEq] at h
  exact h.1.symm
theorem hd_pk {t f0 : List UInt8} {r0 : List (List UInt8)} (h : Lib.split t [32] = f0 :: r0) {l : List Int} (e : t = pkT l) : f0 = pkW ∧ r0 = l.map Lib.itoa := by
  rw [e, pkT_split] at h
  simp only [pkL, List.cons.injEq] at h
  exact ⟨h.1.symm, h.2.symm⟩
theorem ne3 : cfW ≠ thW ∧ cfW ≠ pkW ∧ thW ≠ pkW := by decide
def atN : Option Rdg → Nat
  | none => 0
  | some x => if x.ps = [] then 1 else if x.ps.length % 20 = 0 then 2 else 3
theorem at0_no {y : Rdg} : ¬ atN (some y) = 0 := by
  simp only [atN]
  split
  · omega
  · split <;> omega
def NoG (st : Option Rdg) (t : List UInt8) : Prop := ∀ x, ¬ Goes1 st t x
/-- no line of this first word -/
theorem no_cf {st : Option Rdg} {t : List UInt8} {r0 : List (List UInt8)} (h : Lib.split t [32] = cfW :: r0) (hs : atN st ≠ 0) : NoG st t := fun x hx => by
  cases st with
  | none => exact hs rfl
  | some y =>
    obtain ⟨ce, sl, stp, mu, ts, ps⟩ := y
    rcases goes_inv hx with ⟨e, _⟩ | ⟨o, _, e, _⟩ | ⟨l, e, _⟩
    · exact ne3.1 (hd_th h e).1
    · exact (opW_not o.k).1 (hd_op h e).symm
    · exact ne3.2.1 (hd_pk h e).1
theorem no_cf4 {st : Option Rdg} {t : List UInt8} {r0 : List (List UInt8)} (h : Lib.split t [32] = cfW :: r0) (hs : atN st = 0) (hn : ∀ ce sl stp mu, isI ce → isI sl → isU stp → isI mu → cfgE ce sl stp mu = 0 → r0 ≠ [Lib.itoa ce, Lib.itoa sl, Lib.decDigits stp, Lib.itoa mu]) : NoG st t := fun x hx => by
  cases st with
  | some y => exact absurd hs at0_no
  | none =>
    obtain ⟨ce, sl, stp, mu, a, b, c, d, e, e2⟩ := goes_none hx
    exact hn ce sl stp mu a b c d e (hd_cf h e2).2
theorem yes_cf {st : Option Rdg} {t : List UInt8} {r0 : List (List UInt8)} {ce sl : Int} {stp : Nat} {mu : Int} (h : Lib.split t [32] = cfW :: r0) (hs : atN st = 0) (e : r0 = [Lib.itoa ce, Lib.itoa sl, Lib.decDigits stp, Lib.itoa mu]) (a : isI ce) (b : isI sl) (c : isU stp) (d : isI mu) (hc : cfgE ce sl stp mu = 0) : Goes1 st t ⟨ce, sl, stp, mu, [], []⟩ := by
  cases st with
  | some y => exact absurd hs at0_no
  | none =>
    have e2 : t = cfT ce sl stp mu := by rw [of_split h, e]; rfl
    rw [e2]
    exact .cfg ce sl stp mu a b c d hc
theorem no_th {st : Option Rdg} {t : List UInt8} {r0 : List (List UInt8)} (h : Lib.split t [32] = thW :: r0) (hs : atN st ≠ 1 ∨ r0 ≠ []) : NoG st t := fun x hx => by
  cases st with
  | none =>
    obtain ⟨ce, sl, stp, mu, a, b, c, d, e, e2⟩ := goes_none hx
    exact ne3.1 (hd_cf h e2).1.symm
  | some y =>
    obtain ⟨ce, sl, stp, mu, ts, ps⟩ := y
    rcases goes_inv hx with ⟨e, e1⟩ | ⟨o, _, e, _⟩ | ⟨l, e, _⟩
    · rcases hs with hs | hs
      · exact hs (by simp [atN, e1])
      · exact hs (hd_th h e).2
    · exact (opW_not o.k).2.1 (hd_op h e).symm
    · exact ne3.2.2 (hd_pk h e).1
theorem at1_some {st : Option Rdg} (h : atN st = 1) : ∃ x, st = some x ∧ x.ps = [] := by
  cases st with
  | none => simp [atN] at h
  | some x =>
    refine ⟨x, rfl, ?_⟩
    simp only [atN] at h
    split at h
    · assumption
    · split at h <;> omega
theorem yes_th {t : List UInt8} {ce sl : Int} {stp : Nat} {mu : Int} {ts : List (List Opx)} {ps : List Int} (h : Lib.split t [32] = [thW]) (hp : ps = []) : Goes1 (some ⟨ce, sl, stp, mu, ts, ps⟩) t ⟨ce, sl, stp, mu, ts ++ [[]], ps⟩ := by
  have e : t = thW := by rw [of_split h]; simp [Lib.join]
  subst hp
  rw [e]
  exact .thr ce sl stp mu ts
theorem no_pk {st : Option Rdg} {t : List UInt8} {r0 : List (List UInt8)} (h : Lib.split t [32] = pkW :: r0) (hs : (atN st ≠ 1 ∧ atN st ≠ 2) ∨ r0.mapM intP = none ∨ r0.length = 0 ∨ 20 < r0.length) : NoG st t := fun x hx => by
  cases st with
  | none =>
    obtain ⟨ce, sl, stp, mu, a, b, c, d, e, e2⟩ := goes_none hx
    exact ne3.2.1 (hd_cf h e2).1.symm
  | some y =>
    obtain ⟨ce, sl, stp, mu, ts, ps⟩ := y
    rcases goes_inv hx with ⟨e, e1⟩ | ⟨o, _, e, _⟩ | ⟨l, e, e1, e2, e3, e4⟩
    · exact ne3.2.2 (hd_th h e).1.symm
    · exact (opW_not o.k).2.2 (hd_op h e).symm
    · have er := (hd_pk h e).2
      have el := congrArg List.length er
      rw [List.length_map] at el
      rcases hs with ⟨h1, h2⟩ | hs | hs | hs
      · simp only [atN] at h1 h2
        by_cases hp : ps = []
        · exact h1 (if_pos hp)
        · exact h2 (by rw [if_neg hp, if_pos e1])
      · rw [er, intsM_itoa l e4] at hs
        cases hs
      · omega
      · omega
theorem at12_some {st : Option Rdg} (h : atN st = 1 ∨ atN st = 2) : ∃ x, st = some x ∧ x.ps.length % 20 = 0 := by
  cases st with
  | none => simp [atN] at h
  | some x =>
    refine ⟨x, rfl, ?_⟩
    simp only [atN] at h
    by_cases hp : x.ps = []
    · rw [hp]; rfl
    · rw [if_neg hp] at h
      split at h
      · assumption
      · omega
theorem yes_pk {t : List UInt8} {r0 : List (List UInt8)} {us : List Int} {ce sl : Int} {stp : Nat} {mu : Int} {ts : List (List Opx)} {ps : List Int} (h : Lib.split t [32] = pkW :: r0) (hm : r0.mapM intP = some us) (h20 : ps.length % 20 = 0) (h1 : 1 ≤ us.length) (h2 : us.length ≤ 20) : Goes1 (some ⟨ce, sl, stp, mu, ts, ps⟩) t ⟨ce, sl, stp, mu, ts, ps ++ us⟩ := by
  obtain ⟨e, hi⟩ := intsM_some hm
  have e2 : t = pkT us := by rw [of_split h, e]; rfl
  rw [e2]
  exact .pk ce sl stp mu ts ps us h20 h1 h2 hi
theorem at_pk {ce sl : Int} {stp : Nat} {mu : Int} {ts : List (List Opx)} {ps us : List Int} (h20 : ps.length % 20 = 0) (h1 : 1 ≤ us.length) (h2 : us.length ≤ 20) : atN (some ⟨ce, sl, stp, mu, ts, ps ++ us⟩) = if us.length < 20 then 3 else 2 := by
  simp only [atN]
  have hne : ps ++ us ≠ [] := fun e => by
    have := congrArg List.length e
    simp at this
    rw [this.2] at h1
    simp at h1
  rw [if_neg hne, List.length_append]
  by_cases h : us.length < 20
  · rw [if_pos h, if_neg (by omega)]
  · rw [if_neg h, if_pos (by omega)]
theorem no_op {st : Option Rdg} {t f0 : List UInt8} {r0 : List (List UInt8)} (h : Lib.split t [32] = f0 :: r0) (n1 : f0 ≠ cfW) (n2 : f0 ≠ thW) (n3 : f0 ≠ pkW) (hs : atN st ≠ 1 ∨ (∃ x, st = some x ∧ x.ts = []) ∨ ∀ o, rightO o → t ≠ textO o) : NoG st t := fun x hx => by
  cases st with
  | none =>
    obtain ⟨ce, sl, stp, mu, a, b, c, d, e, e2⟩ := goes_none hx
    exact n1 (hd_cf h e2).1
  | some y =>
    obtain ⟨ce, sl, stp, mu, ts, ps⟩ := y
    rcases goes_inv hx with ⟨e, e1⟩ | ⟨o, hr, e, e1, e2⟩ | ⟨l, e, _⟩
    · exact n2 (hd_th h e).1
    · rcases hs with hs | ⟨x, hs, hts⟩ | hs
      · exact hs (by simp [atN, e1])
      · injection hs with hs
        subst hs
        exact e2 hts
      · exact hs o hr e
    · exact n3 (hd_pk h e).1
theorem pq_not {t : List UInt8} {o : Opx} (h : PQ t false o) : ∀ o, rightO o → t ≠ textO o := fun o' h1 h2 => by
  have := (h.2 o' h1 h2).1
  cases this
theorem yes_op {t : List UInt8} {o : Opx} {ce sl : Int} {stp : Nat} {mu : Int} {ts : List (List Opx)} {l : List Opx} {ps : List Int} (hp : ps = []) (h : PQ t true o) : Goes1 (some ⟨ce, sl, stp, mu, ts ++ [l], ps⟩) t ⟨ce, sl, stp, mu, ts ++ [l ++ [o]], ps⟩ := by
  obtain ⟨h1, h2⟩ := h.1 rfl
  subst hp h2
  exact .op ce sl stp mu ts l o h1
/-- the words of the lines -/
def lnV (b k : Nat) : Value := .func (.func k) #[.pointer (some ⟨b, 0, none⟩)] #[]
def lnN (b : Nat) : Nat → Array MapEntry
  | 0 => #[]
  | 1 => #[⟨.string (mkS cfW), lnV b 88, 0⟩]
  | 2 => #[⟨.string (mkS cfW), lnV b 88, 0⟩, ⟨.string (mkS thW), lnV b 89, 1⟩]
  | _ => #[⟨.string (mkS cfW), lnV b 88, 0⟩, ⟨.string (mkS thW), lnV b 89, 1⟩, ⟨.string (mkS pkW), lnV b 90, 2⟩]
def IsLn (W : World) (m b : Nat) : Prop := W.heap[m]? = some (.map (lnN b 3) 3)
theorem mkS_ne {a b : List UInt8} (h : a ≠ b) : (mkS a == mkS b) = false := by
  show ((mkS a).data == (mkS b).data) = false
  rw [beq_eq_false_iff_ne]
  intro e
  apply h
  have := congrArg (fun d => (ByteArray.mk d).toList) e
  have this : (mkS a).toList = (mkS b).toList := this
  rwa [mkS_toList, mkS_toList] at this
theorem ln_none {b : Nat} {f : List UInt8} (n1 : f ≠ cfW) (n2 : f ≠ thW) (n3 : f ≠ pkW) : Instr.findNow .string (.string (mkS f)) (lnN b 3).toList 0 = some none := by
  show Instr.findNow .string (.string (mkS f)) [⟨.string (mkS cfW), lnV b 88, 0⟩, ⟨.string (mkS thW), lnV b 89, 1⟩, ⟨.string (mkS pkW), lnV b 90, 2⟩] 0 = some none
  simp only [Instr.findNow, Instr.sameNow, mkS_ne n1, mkS_ne n2, mkS_ne n3]
theorem ln_put {w : World} {m b n k : Nat} {f : List UInt8} (hb : w.heap[m]? = some (.map (lnN b n) n)) (hn : lnN b (n + 1) = (lnN b n).push ⟨.string (mkS f), lnV b k, n⟩) (hf : Instr.findNow .string (.string (mkS f)) (lnN b n).toList 0 = some none) :
    ∃ w', (Instr.mapUpdate 103 (.map (some m)) (.string (mkS f)) (lnV b k)).run Tryz.prog w = .ok () w' ∧ w'.heap[m]? = some (.map (lnN b (n + 1)) (n + 1)) ∧ (∀ B, B ≤ m → Below B w w') := by
  refine ⟨ChangeMaps.setBlock w m (.map (lnN b (n + 1)) (n + 1)), ?_, ?_, fun B hB => ?_⟩
  · simp [Instr.mapUpdate, run_underlying Tryz.underlying103, MapKept.run_getObj_map hb, ck_s, run_find_s hf, MapKept.run_setObj_map _ hb, Result.andThen, ChangeMaps.setBlock, hn]
  · show (w.heap.setIfInBounds m _)[m]? = some _
    rw [Array.getElem?_setIfInBounds_self_of_lt (Array.getElem?_eq_some_iff.1 hb).1]
  · exact ⟨rfl, rfl, rfl, by simp [ChangeMaps.setBlock], fun k hk => by
      show (w.heap.setIfInBounds m _)[k]? = w.heap[k]?
      rw [Array.getElem?_setIfInBounds_ne (by omega)]⟩
theorem ln_yes {W : World} {m b : Nat} (h : IsLn W m b) {f : List UInt8} {i k : Nat} (hf : Instr.findNow .string (.string (mkS f)) (lnN b 3).toList 0 = some (some (i, lnV b k))) : (Instr.lookup 103 (.map (some m)) (.string (mkS f)) true).run Tryz.prog W = .ok (.tuple #[lnV b k, .bool true]) W := by
  simp [Instr.lookup, run_underlying Tryz.underlying103, MapKept.run_getObj_map h, ck_s, run_find_s hf, Result.andThen]
theorem ln_no {W : World} {m b : Nat} (h : IsLn W m b) {f : List UInt8} (n1 : f ≠ cfW) (n2 : f ≠ thW) (n3 : f ≠ pkW) : (Instr.lookup 103 (.map (some m)) (.string (mkS f)) true).run Tryz.prog W = .ok (.tuple #[.nilFunc, .bool false]) W := by
  have hz : (zeroValue 146).run Tryz.prog W = .ok .nilFunc W := by kernel_rfl
  simp [Instr.lookup, run_underlying Tryz.underlying103, MapKept.run_getObj_map h, ck_s, run_find_s (ln_none n1 n2 n3), Result.andThen, hz]
abbrev rdR (ce sl : Int) (stp : Nat) (mu : Int) (tv pv : Value) (a vb m : Nat) : Array Value := #[.int .i64 ce, .int .i64 sl, .int .u64 ((stp : Nat) : Int), .int .i64 mu, tv, pv, .int .i64 ((a : Nat) : Int), .map (some vb), .map (some m)]
/-- while the program reads -/
structure RS (Z : World) (b vb m : Nat) (ce sl : Int) (stp : Nat) (mu : Int) (tb pb : Value) (a : Nat) (tv pv : Value) (ts : List (List Opx)) (ps : List Int) (wr : World) : Prop where
  os : OS Z wr tv pv ts ps
  bel : Below Z.heap.size Z wr
  bx : wr.heap[b]? = some (.cells (rdR ce sl stp mu tb pb a vb m) 105 (0, 0))
  vc : IsVoc wr vb
  ln : IsLn wr m b
  lb : Z.heap.size ≤ b
theorem nread : ¬ rowTy 105 := by unfold rowTy; decide
theorem RS.on {Z : World} {b vb m : Nat} {ce sl : Int} {stp : Nat} {mu : Int} {tb pb : Value} {a : Nat} {tv pv : Value} {ts : List (List Opx)} {ps : List Int} {wr X : World} (h : RS Z b vb m ce sl stp mu tb pb a tv pv ts ps wr) (hb : Below wr.heap.size wr X) : RS Z b vb m ce sl stp mu tb pb a tv pv ts ps X :=
  ⟨h.os.on hb, (h.bel.trans (hb.mono h.bel.size)), heap_below h.bx hb, h.vc.on hb, heap_below h.ln hb, h.lb⟩
theorem RS.put {Z : World} {b vb m : Nat} {ce sl : Int} {stp : Nat} {mu : Int} {tb pb : Value} {a : Nat} {tv pv tv' pv' : Value} {ts ts' : List (List Opx)} {ps ps' : List Int} {wr w2 : World} (h : RS Z b vb m ce sl stp mu tb pb a tv pv ts ps wr) (ho : OS Z w2 tv' pv' ts' ps') (hc : ChO Z wr w2) : RS Z b vb m ce sl stp mu tb pb a tv' pv' ts' ps' w2 :=
  ⟨ho, hc.bel h.bel, hc.kept h.bx (fun cs t e ht => by injection e with _ e; subst e; exact absurd ht nread), hc.kept h.vc (fun cs t e => by cases e), hc.kept h.ln (fun cs t e => by cases e), h.lb⟩
theorem RS.set {Z : World} {b vb m : Nat} {ce sl : Int} {stp : Nat} {mu : Int} {tb pb : Value} {a : Nat} {tv pv : Value} {ts : List (List Opx)} {ps : List Int} {wr : World} (h : RS Z b vb m ce sl stp mu tb pb a tv pv ts ps wr) (i : Nat) (v : Value) : OS Z (wr.setCell ⟨b, i, none⟩ v) tv pv ts ps ∧ Below Z.heap.size Z (wr.setCell ⟨b, i, none⟩ v) ∧ (wr.setCell ⟨b, i, none⟩ v).heap[b]? = some (.cells ((rdR ce sl stp mu tb pb a vb m).setIfInBounds i v) 105 (0, 0)) ∧ IsVoc (wr.setCell ⟨b, i, none⟩ v) vb ∧ IsLn (wr.setCell ⟨b, i, none⟩ v) m b :=
  ⟨h.os.keep (KpM.at (P := b) ⟨rfl, rfl, rfl, by simp [World.setCell], fun k hb hn => Below.heap_setCell _ _ _ _ hn⟩ h.bx nread (i0 ⟨ce, rfl⟩)), h.bel.setCell h.lb _, set_of h.bx i v, other_of h.vc (fun e => by have h1 := h.vc; rw [e] at h1; unfold IsVoc at h1; rw [h.bx] at h1; cases h1) _, other_of h.ln (fun e => by have h1 := h.ln; rw [e] at h1; unfold IsLn at h1; rw [h.bx] at h1; cases h1) _⟩
theorem RS.setT {Z : World} {b vb m : Nat} {ce sl : Int} {stp : Nat} {mu : Int} {tb pb : Value} {a : Nat} {tv pv : Value} {ts : List (List Opx)} {ps : List Int} {wr : World} (h : RS Z b vb m ce sl stp mu tb pb a tv pv ts ps wr) (v : Value) : RS Z b vb m ce sl stp mu v pb a tv pv ts ps (wr.setCell ⟨b, 4, none⟩ v) := by
  obtain ⟨h1, h2, h3, h4, h5⟩ := h.set 4 v
  exact ⟨h1, h2, h3, h4, h5, h.lb⟩
theorem RS.setP {Z : World} {b vb m : Nat} {ce sl : Int} {stp : Nat} {mu : Int} {tb pb : Value} {a : Nat} {tv pv : Value} {ts : List (List Opx)} {ps : List Int} {wr : World} (h : RS Z b vb m ce sl stp mu tb pb a tv pv ts ps wr) (v : Value) : RS Z b vb m ce sl stp mu tb v a tv pv ts ps (wr.setCell ⟨b, 5, none⟩ v) := by
  obtain ⟨h1, h2, h3, h4, h5⟩ := h.set 5 v
  exact ⟨h1, h2, h3, h4, h5, h.lb⟩
theorem RS.setA {Z : World} {b vb m : Nat} {ce sl : Int} {stp : Nat} {mu : Int} {tb pb : Value} {a : Nat} {tv pv : Value} {ts : List (List Opx)} {ps : List Int} {wr : World} (h : RS Z b vb m ce sl stp mu tb pb a tv pv ts ps wr) (a' : Nat) : RS Z b vb m ce sl stp mu tb pb a' tv pv ts ps (wr.setCell ⟨b, 6, none⟩ (.int .i64 ((a' : Nat) : Int))) := by
  obtain ⟨h1, h2, h3, h4, h5⟩ := h.set 6 (.int .i64 ((a' : Nat) : Int))
  exact ⟨h1, h2, h3, h4, h5, h.lb⟩
theorem RS.setC {Z : World} {b vb m : Nat} {ce sl : Int} {stp : Nat} {mu : Int} {tb pb : Value} {a : Nat} {tv pv : Value} {ts : List (List Opx)} {ps : List Int} {wr : World} (h : RS Z b vb m ce sl stp mu tb pb a tv pv ts ps wr) (ce' sl' : Int) (stp' : Nat) (mu' : Int) : RS Z b vb m ce' sl' stp' mu' tb pb a tv pv ts ps (wr.setCells b 0 [.int .i64 ce', .int .i64 sl', .int .u64 ((stp' : Nat) : Int), .int .i64 mu']) := by
  obtain ⟨a1, a2, a3, a4, a5⟩ := h.set 0 (.int .i64 ce')
  have h1 : RS Z b vb m ce' sl stp mu tb pb a tv pv ts ps (wr.setCell ⟨b, 0, none⟩ (.int .i64 ce')) := ⟨a1, a2, a3, a4, a5, h.lb⟩
  obtain ⟨a1, a2, a3, a4, a5⟩ := h1.set 1 (.int .i64 sl')
  have h2 : RS Z b vb m ce' sl' stp mu tb pb a tv pv ts ps ((wr.setCell ⟨b, 0, none⟩ (.int .i64 ce')).setCell ⟨b, 1, none⟩ (.int .i64 sl')) := ⟨a1, a2, a3, a4, a5, h.lb⟩
  obtain ⟨a1, a2, a3, a4, a5⟩ := h2.set 2 (.int .u64 ((stp' : Nat) : Int))
  have h3 : RS Z b vb m ce' sl' stp' mu tb pb a tv pv ts ps (((wr.setCell ⟨b, 0, none⟩ (.int .i64 ce')).setCell ⟨b, 1, none⟩ (.int .i64 sl')).setCell ⟨b, 2, none⟩ (.int .u64 ((stp' : Nat) : Int))) := ⟨a1, a2, a3, a4, a5, h.lb⟩
  obtain ⟨a1, a2, a3, a4, a5⟩ := h3.set 3 (.int .i64 mu')
  exact ⟨a1, a2, a3, a4, a5, h.lb⟩
/-- the state of the reading -/
def SR (Z : World) (b vb m : Nat) (st : Option Rdg) (wr : World) : Prop := ∃ ce sl stp mu tv pv ts ps, RS Z b vb m ce sl stp mu tv pv (atN st) tv pv ts ps wr ∧ (st = none → ts = [] ∧ ps = []) ∧ ∀ x, st = some x → x = ⟨ce, sl, stp, mu, ts, ps⟩
/-- how the taking of a line ends -/
def TkQ (Z : World) (b vb m : Nat) (st : Option Rdg) (t : List UInt8) (e : Ending) (W' : World) : Prop := ∃ ok, e = .returned (.bool ok) ∧ Below Z.heap.size Z W' ∧ (ok = true → ∃ x, Goes1 st t x ∧ SR Z b vb m (some x) W') ∧ (ok = false → NoG st t)
set_option maxRecDepth 100000 in
set_option maxHeartbeats 4000000 in
theorem reading_new (W : World) : Calls Tryz.prog 52 #[] W fun e W' => ∃ b vb m, e = .returned (.pointer (some ⟨b, 0, none⟩)) ∧ SR W b vb m none W' := by
  have HV := keepH (voc_new W)
  go_enter Tryz.func52, Tryz.ntmps52
  go_wp2_with fail
  refine HV.out.mono ?_
  rintro e w1 ⟨rfl, hv, B1⟩
  obtain ⟨w2, hw2⟩ : ∃ w2, w2 = w1.alloc (.cells #[.int .i64 0, .int .i64 0, .int .u64 0, .int .i64 0, .slice none 0 0, .slice none 0 0, .int .i64 0, .map (some W.heap.size), .map none] 105) := ⟨_, rfl⟩
  obtain ⟨b, hb⟩ : ∃ b, b = w1.heap.size := ⟨_, rfl⟩
  have B2 : Below w1.heap.size w1 w2 := by rw [hw2]; exact below_alloc _ _
  have X2 : w2.heap[b]? = some (.cells #[.int .i64 0, .int .i64 0, .int .u64 0, .int .i64 0, .slice none 0 0, .slice none 0 0, .int .i64 0, .map (some W.heap.size), .map none] 105 (0, 0)) := by rw [hw2, hb]; exact heap_alloc_new _ _
  obtain ⟨w3, hw3⟩ : ∃ w3, w3 = w2.alloc (.map #[] 0) := ⟨_, rfl⟩
  obtain ⟨m, hm⟩ : ∃ m, m = w2.heap.size := ⟨_, rfl⟩
  have B3 : Below w2.heap.size w2 w3 := by rw [hw3]; exact below_alloc _ _
  have M3 : w3.heap[m]? = some (.map (lnN b 0) 0) := by rw [hw3, hm]; exact heap_alloc_new _ _
  obtain ⟨w4, q4, M4, C4⟩ := ln_put (f := cfW) (k := 88) M3 rfl rfl
  obtain ⟨w5, q5, M5, C5⟩ := ln_put (f := thW) (k := 89) M4 rfl rfl
  obtain ⟨w6, q6, M6, C6⟩ := ln_put (f := pkW) (k := 90) M5 rfl rfl
  have p4 : (Instr.mapUpdate 103 (.map (some m)) (.string ⟨#[99, 111, 110, 102, 105, 103]⟩) (.func (.func 88) #[.pointer (some ⟨b, 0, none⟩)] #[])).run Tryz.prog w3 = .ok () w4 := q4
  have p5 : (Instr.mapUpdate 103 (.map (some m)) (.string ⟨#[116, 104, 114, 101, 97, 100]⟩) (.func (.func 89) #[.pointer (some ⟨b, 0, none⟩)] #[])).run Tryz.prog w4 = .ok () w5 := q5
  have p6 : (Instr.mapUpdate 103 (.map (some m)) (.string ⟨#[112, 105, 99, 107, 115]⟩) (.func (.func 90) #[.pointer (some ⟨b, 0, none⟩)] #[])).run Tryz.prog w5 = .ok () w6 := q6
  rw [hw3] at p4
  subst hm
  have C36 : Below w2.heap.size w3 w6 := ((C4 _ (Nat.le_refl _)).trans (C5 _ (Nat.le_refl _))).trans (C6 _ (Nat.le_refl _))
  have C26 : Below w2.heap.size w2 w6 := B3.trans C36
  have X6 := heap_below X2 C26
  have HV6 := keepH ((hv.on B2).on C26)
  have HB6 := keepH (below_chain (below_chain B1 B2) C26)
  have HX6 := keepH X6
  have HM6 := keepH M6
  have x8 : w6.cell? ⟨b, 8, none⟩ = _ := cell_of X6 8
  have y8 := free_of X6 8
  have HLB : Hid (W.heap.size ≤ b) := keepH (by rw [hb]; exact B1.size)
  have hmm := @run_makeMap Tryz.prog
  have HNE : Hid (w2.heap.size ≠ b) := keepH (by rw [hb]; have := (Array.getElem?_eq_some_iff.1 X2).1; omega)
  have HNV : Hid (W.heap.size ≠ b) := keepH (by
    have h1 := hv
    rw [hb]
    have := (Array.getElem?_eq_some_iff.1 h1).1
    omega)
  have HW2 := keepH hw2
  have HB := keepH hb
  have HW3 := keepH hw3
  clear hv B1 hw2 hb B2 X2 hw3 B3 M3 q4 M4 C4 q5 M5 C5 q6 M6 C6 C36 C26 X6
  go_upto_region 2 with fail
  rw [← HW2.out, ← HB.out]
  clear HW2 HB
  go_wp2_with fail
  go_ret
  refine ⟨b, W.heap.size, w2.heap.size, by simp, 0, 0, 0, 0, .slice none 0 0, .slice none 0 0, [], [], ⟨OS.nil _ _, HB6.out.setCell HLB.out _, set_of HX6.out 8 _, other_of HV6.out HNV.out _, other_of HM6.out HNE.out _, HLB.out⟩, fun _ => ⟨rfl, rfl⟩, fun x e => by cases e⟩
end Go.Proofs.YtmmaniolaljjlaaGreatDoor
/- A line of a thread, a line of picks, by the program. (mkSfj.py) -/
namespace Go.Proofs.YtmmaniolaljjlaaGreatDoor
open Go.RowKit Go.Shelf Go.Maps
set_option linter.unusedVariables false

structure SzX (x : Rdg) : Prop where
  tl : x.ts.length ≤ 10000000
  pl : x.ps.length ≤ 10000000
  ll : ∀ l ∈ x.ts, l.length ≤ 10000000
def SzR (st : Option Rdg) : Prop := ∀ x, st = some x → SzX x
set_option maxRecDepth 100000 in
set_option maxHeartbeats 4000000 in
theorem rd_thread (Z : World) (b vb m : Nat) (st : Option Rdg) (t : List UInt8) (r0 : List (List UInt8)) (p : Option Addr) (n c : Nat) (hsp : Lib.split t [32] = thW :: r0) (hn : n = r0.length) (hs : SzR st) (W : World) (h : SR Z b vb m st W) :
    Calls Tryz.prog 89 #[.pointer (some ⟨b, 0, none⟩), .slice p n c] W (TkQ Z b vb m st t) := by
  obtain ⟨ce, sl, stp, mu, tv, pv, ts, ps, hrs, hnone, hsome⟩ := h
  obtain ⟨a, ha⟩ : ∃ a, a = atN st := ⟨_, rfl⟩
  rw [← ha] at hrs
  have HRS := keepH hrs
  have HSP := keepH hsp
  have HA := keepH ha
  have HN := keepH hn
  have HSM := keepH hsome
  have HSZ := keepH hs
  have c6 : W.cell? ⟨b, 6, none⟩ = _ := cell_of HRS.out.bx 6
  clear hrs hsp ha hn hnone hsome hs
  by_cases h1 : a = 1
  · have q1 : ((a : Int) != 1) = false := by rw [h1]; rfl
    by_cases h2 : n = 0
    · have q2 : ((n : Int) != 0) = false := by rw [h2]; rfl
      obtain ⟨x, hx, hxp⟩ := at1_some (HA.out.symm.trans h1)
      have hxe := HSM.out x hx
      subst hxe
      simp only at hxp
      have hr0 : r0 = [] := List.eq_nil_of_length_eq_zero (by rw [← HN.out]; exact h2)
      have HG : Hid (Goes1 st t ⟨ce, sl, stp, mu, ts ++ [[]], ps⟩) := keepH (by rw [hx]; exact yes_th (by rw [HSP.out, hr0]) hxp)
      have hst := HSZ.out _ hx
      have htl := hst.tl
      simp only at htl
      have HPS := keepH hxp
      obtain ⟨wa, hwa⟩ : ∃ wa, wa = W.alloc (.cells #[.slice none 0 0] 75) := ⟨_, rfl⟩
      have BA : Below W.heap.size W wa := by rw [hwa]; exact below_alloc _ _
      have hra := HRS.out.on BA
      obtain ⟨vs, v1, v2, v3, v4⟩ := hra.os.tr
      have hrun := app_rowT wa tv W.heap.size ts vs v2 htl (by rw [hwa]; exact heap_alloc_new _ _) 43
      obtain ⟨tv2, w3, hrun, hprow, hgr, hpo⟩ := hrun
      obtain ⟨ho3, hc3⟩ := hra.os.addT hra.bel.size v1 v2 v3 v4 hprow hgr hpo
      have hr3 := hra.put ho3 hc3
      have d4 : w3.cell? ⟨b, 4, none⟩ = _ := cell_of hr3.bx 4
      have f4 := free_of hr3.bx 4
      have c4 : W.cell? ⟨b, 4, none⟩ = _ := cell_of HRS.out.bx 4
      obtain ⟨tp, tn, td, e1⟩ : ∃ a b c, tv = .slice a b c := by obtain ⟨tp, tc, pp, pc, e, _⟩ := HRS.out.os.reads; exact ⟨tp, _, tc, e⟩
      obtain ⟨tp2, tn2, td2, e2⟩ : ∃ a b c, tv2 = .slice a b c := by obtain ⟨a, c, e⟩ := row_form hprow; exact ⟨a, _, c, e⟩
      have HR4 := keepH (hr3.setT tv2)
      rw [hwa] at hrun
      have HRUN := keepH hrun
      subst e1 e2
      clear h1 h2 hx hxp hr0 hst hwa BA hra v1 v2 v3 v4 hrun hprow hgr hpo ho3 hc3 hr3
      go_enter Tryz.func89, Tryz.ntmps89
      go_wp2_with (first | (at_builtin; refine wpList_append_runS rfl (.tmp 20) (.tmp 21) 43 rfl _ _ _ _ rfl rfl HRUN.out ?_) | go_in)
      go_ret
      have hat : atN (some (Rdg.mk ce sl stp mu (ts ++ [[]]) ps)) = a := by
        have h9 := HPS.out
        simp only [atN]
        rw [if_pos h9]
        have := HA.out
        have q3 : (a : Int) = 1 := by simpa using q1
        omega
      exact ⟨true, rfl, HR4.out.bel, fun _ => ⟨_, HG.out, ce, sl, stp, mu, _, _, _, _, by rw [hat]; exact HR4.out, fun e => (nomatch e), fun x e => by injection e with e; exact e.symm⟩, fun e => by cases e⟩
    · have q2 : ((n : Int) != 0) = true := by simp; omega
      have HNG : Hid (NoG st t) := keepH (no_th HSP.out (.inr (fun e => h2 (by rw [HN.out, e]; rfl))))
      clear h1 h2
      go_enter Tryz.func89, Tryz.ntmps89
      go_wp2_with fail
      go_ret
      exact ⟨false, rfl, HRS.out.bel, fun e => (nomatch e), fun _ => HNG.out⟩
  · have q1 : ((a : Int) != 1) = true := by simp; omega
    have HNG : Hid (NoG st t) := keepH (no_th HSP.out (.inl (fun e => h1 (HA.out.trans e))))
    clear h1
    go_enter Tryz.func89, Tryz.ntmps89
    go_wp2_with fail
    go_ret
    exact ⟨false, rfl, HRS.out.bel, fun e => (nomatch e), fun _ => HNG.out⟩
set_option maxRecDepth 100000 in
set_option maxHeartbeats 8000000 in
theorem rd_picks (Z : World) (b vb m : Nat) (st : Option Rdg) (t : List UInt8) (r0 : List (List UInt8)) (p : Option Addr) (n c : Nat) (hsp : Lib.split t [32] = pkW :: r0) (hn : n = r0.length) (hl : r0.length ≤ 200000000) (hf : ∀ f ∈ r0, f.length ≤ 200000000) (hs : SzR st) (W : World) (T : Tb W) (hr : SRd W p r0) (h : SR Z b vb m st W) :
    Calls Tryz.prog 90 #[.pointer (some ⟨b, 0, none⟩), .slice p n c] W (TkQ Z b vb m st t) := by
  obtain ⟨ce, sl, stp, mu, tv, pv, ts, ps, hrs, hnone, hsome⟩ := h
  obtain ⟨a, ha⟩ : ∃ a, a = atN st := ⟨_, rfl⟩
  rw [← ha] at hrs
  have hnums := nums_z p c r0 hl hf W T hr
  rw [← hn] at hnums
  have HNM := keepH hnums
  have HRS := keepH hrs
  have HSP := keepH hsp
  have HA := keepH ha
  have HN := keepH hn
  have HSM := keepH hsome
  have HSZ := keepH hs
  have c6 : W.cell? ⟨b, 6, none⟩ = _ := cell_of HRS.out.bx 6
  clear hrs hsp ha hn hnone hsome hs hnums hl hf T hr
  by_cases h12 : a = 1 ∨ a = 2
  · have HAA := keepH h12
    have HQ1 : Hid (∀ K : Prop, ((((a : Int) != 1) = false → K) ∧ ((((a : Int) != 1) = true) → (((a : Int) != 2) = false) → K)) → K) := keepH (fun K hK => by
      rcases HAA.out with e | e
      · exact hK.1 (by rw [e]; rfl)
      · exact hK.2 (by rw [e]; rfl) (by rw [e]; rfl))
    obtain ⟨x, hx, h20⟩ := at12_some (by rw [HA.out] at h12; exact h12)
    have hxe := HSM.out x hx
    subst hxe
    simp only at h20
    have hst := HSZ.out _ hx
    have hpl := hst.pl
    simp only at hpl
    have HX := keepH hx
    have H20 := keepH h20
    clear h12 hx h20 hst
    go_enter Tryz.func90, Tryz.ntmps90
    refine HQ1.out _ ⟨fun q1 => ?_, fun q1 q2 => ?_⟩
    · go_wp2_with fail
      refine HNM.out.mono ?_
      rintro e w2 hq
      clear HQ1 c6
      rcases hq with ⟨us, v, hm, rfl, hst⟩ | ⟨hm, rfl, B2⟩
      · have hst2 := hst
        obtain ⟨lp, lc, rfl, -⟩ := stz_form hst
        obtain ⟨k, hk⟩ : ∃ k, k = us.length := ⟨_, rfl⟩
        have hul := mapM_z_len hm
        rw [← hk]
        rw [← hk] at hst2
        by_cases hk0 : k = 0
        · have z1 : ((k : Int) == 0) = true := by rw [hk0]; rfl
          have HNG : Hid (NoG st t) := keepH (no_pk HSP.out (.inr (.inr (.inl (by rw [← hul, ← hk]; exact hk0)))))
          have HB := keepH (HRS.out.on hst2.bel)
          clear hk0 hst hst2 hk hul hm
          go_wp2_with fail
          go_ret
          exact ⟨false, rfl, HB.out.bel, fun e => (nomatch e), fun _ => HNG.out⟩
        · have z1 : ((k : Int) == 0) = false := by simp; omega
          by_cases hk20 : 20 < k
          · have z2 : (k : Int) > 20 := by omega
            have HNG : Hid (NoG st t) := keepH (no_pk HSP.out (.inr (.inr (.inr (by rw [← hul, ← hk]; exact hk20)))))
            have HB := keepH (HRS.out.on hst2.bel)
            clear hk0 hk20 hst hst2 hk hul hm
            go_wp2_with fail
            go_ret
            exact ⟨false, rfl, HB.out.bel, fun e => (nomatch e), fun _ => HNG.out⟩
          · have z2 : ¬ (k : Int) > 20 := by omega
            have hne : us ≠ [] := fun e => hk0 (by rw [hk, e]; rfl)
            have HG : Hid (Goes1 st t ⟨ce, sl, stp, mu, ts, ps ++ us⟩) := keepH (by rw [HX.out]; exact yes_pk HSP.out hm H20.out (by omega) (by omega))
            have hat := at_pk (ce := ce) (sl := sl) (stp := stp) (mu := mu) (ts := ts) (us := us) H20.out (by omega) (by omega)
            have hra := HRS.out.on hst2.bel
            have hrun := app_rowI w2 pv (.slice lp k lc) ps us hra.os.pr (by have h9 := hst.row; rw [← hk] at h9 ⊢; exact h9) hpl (by omega) hne 44
            obtain ⟨pv2, w3, hrun, hprow, hgr, hpo⟩ := hrun
            obtain ⟨ho3, hc3⟩ := hra.os.addP hra.bel.size hne hprow hgr hpo
            have hr3 := hra.put ho3 hc3
            have c5 : w2.cell? ⟨b, 5, none⟩ = _ := cell_of hra.bx 5
            have d5 : w3.cell? ⟨b, 5, none⟩ = _ := cell_of hr3.bx 5
            have f5 := free_of hr3.bx 5
            obtain ⟨pp, pn, pd, e1⟩ : ∃ a b c, pv = .slice a b c := by obtain ⟨tp, tc, pp, pc, _, e, _⟩ := HRS.out.os.reads; exact ⟨pp, _, pc, e⟩
            obtain ⟨pp2, pn2, pd2, e2⟩ : ∃ a b c, pv2 = .slice a b c := by obtain ⟨a, c, e⟩ := row_form hprow; exact ⟨a, _, c, e⟩
            subst e1 e2
            have hr4 := hr3.setP (.slice pp2 pn2 pd2)
            obtain ⟨w4, hw4⟩ : ∃ w4, w4 = w3.setCell ⟨b, 5, none⟩ (.slice pp2 pn2 pd2) := ⟨_, rfl⟩
            rw [← hw4] at hr4
            have d6 : w4.cell? ⟨b, 6, none⟩ = _ := cell_of hr4.bx 6
            have f6 := free_of hr4.bx 6
            have hr5 := hr4.setA 2
            obtain ⟨w5, hw5⟩ : ∃ w5, w5 = w4.setCell ⟨b, 6, none⟩ (.int .i64 ((2 : Nat) : Int)) := ⟨_, rfl⟩
            rw [← hw5] at hr5
            have g6 : w5.cell? ⟨b, 6, none⟩ = _ := cell_of hr5.bx 6
            have k6 := free_of hr5.bx 6
            have HR5 := keepH hr5
            have HR6 := keepH (hr5.setA 3)
            have HRUN := keepH hrun
            have HW4 := keepH hw4
            have HW5 : Hid (w5 = w4.setCell ⟨b, 6, none⟩ (.int .i64 2)) := keepH hw5
            by_cases hk9 : k < 20
            · have z3 : (k : Int) < 20 := by omega
              rw [if_pos (by omega)] at hat
              have HAT := keepH hat
              clear hk0 hk20 hk9 hst hst2 hk hul hm hne hat hra hrun hprow hgr hpo ho3 hc3 hr3 hr4 hr5 hw4 hw5
              go_upto_region 7 with (first | (at_builtin; refine wpList_append_runS rfl (.tmp 41) (.tmp 42) 44 rfl _ _ _ _ rfl rfl HRUN.out ?_) | go_in)
              rw [← HW4.out]
              go_upto_region 8 with fail
              rw [← HW5.out]
              go_wp2_with fail
              go_ret
              exact ⟨true, rfl, HR6.out.bel, fun _ => ⟨_, HG.out, ce, sl, stp, mu, _, _, _, _, by rw [HAT.out]; exact HR6.out, fun e => (nomatch e), fun x e => by injection e with e; exact e.symm⟩, fun e => by cases e⟩
            · have z3 : ¬ (k : Int) < 20 := by omega
              rw [if_neg (by omega)] at hat
              have HAT := keepH hat
              clear hk0 hk20 hk9 hst hst2 hk hul hm hne hat hra hrun hprow hgr hpo ho3 hc3 hr3 hr4 hr5 hw4 hw5
              go_upto_region 7 with (first | (at_builtin; refine wpList_append_runS rfl (.tmp 41) (.tmp 42) 44 rfl _ _ _ _ rfl rfl HRUN.out ?_) | go_in)
              rw [← HW4.out]
              go_upto_region 8 with fail
              rw [← HW5.out]
              go_wp2_with fail
              go_ret
              exact ⟨true, rfl, HR5.out.bel, fun _ => ⟨_, HG.out, ce, sl, stp, mu, _, _, _, _, by rw [HAT.out]; exact HR5.out, fun e => (nomatch e), fun x e => by injection e with e; exact e.symm⟩, fun e => by cases e⟩
      · have HNG : Hid (NoG st t) := keepH (no_pk HSP.out (.inr (.inl hm)))
        have HB := keepH (HRS.out.on B2)
        clear hm B2
        go_wp2_with fail
        go_ret
        exact ⟨false, rfl, HB.out.bel, fun e => (nomatch e), fun _ => HNG.out⟩
    · go_wp2_with fail
      refine HNM.out.mono ?_
      rintro e w2 hq
      clear HQ1 c6
      rcases hq with ⟨us, v, hm, rfl, hst⟩ | ⟨hm, rfl, B2⟩
      · have hst2 := hst
        obtain ⟨lp, lc, rfl, -⟩ := stz_form hst
        obtain ⟨k, hk⟩ : ∃ k, k = us.length := ⟨_, rfl⟩
        have hul := mapM_z_len hm
        rw [← hk]
        rw [← hk] at hst2
        by_cases hk0 : k = 0
        · have z1 : ((k : Int) == 0) = true := by rw [hk0]; rfl
          have HNG : Hid (NoG st t) := keepH (no_pk HSP.out (.inr (.inr (.inl (by rw [← hul, ← hk]; exact hk0)))))
          have HB := keepH (HRS.out.on hst2.bel)
          clear hk0 hst hst2 hk hul hm
          go_wp2_with fail
          go_ret
          exact ⟨false, rfl, HB.out.bel, fun e => (nomatch e), fun _ => HNG.out⟩
        · have z1 : ((k : Int) == 0) = false := by simp; omega
          by_cases hk20 : 20 < k
          · have z2 : (k : Int) > 20 := by omega
            have HNG : Hid (NoG st t) := keepH (no_pk HSP.out (.inr (.inr (.inr (by rw [← hul, ← hk]; exact hk20)))))
            have HB := keepH (HRS.out.on hst2.bel)
            clear hk0 hk20 hst hst2 hk hul hm
            go_wp2_with fail
            go_ret
            exact ⟨false, rfl, HB.out.bel, fun e => (nomatch e), fun _ => HNG.out⟩
          · have z2 : ¬ (k : Int) > 20 := by omega
            have hne : us ≠ [] := fun e => hk0 (by rw [hk, e]; rfl)
            have HG : Hid (Goes1 st t ⟨ce, sl, stp, mu, ts, ps ++ us⟩) := keepH (by rw [HX.out]; exact yes_pk HSP.out hm H20.out (by omega) (by omega))
            have hat := at_pk (ce := ce) (sl := sl) (stp := stp) (mu := mu) (ts := ts) (us := us) H20.out (by omega) (by omega)
            have hra := HRS.out.on hst2.bel
            have hrun := app_rowI w2 pv (.slice lp k lc) ps us hra.os.pr (by have h9 := hst.row; rw [← hk] at h9 ⊢; exact h9) hpl (by omega) hne 44
            obtain ⟨pv2, w3, hrun, hprow, hgr, hpo⟩ := hrun
            obtain ⟨ho3, hc3⟩ := hra.os.addP hra.bel.size hne hprow hgr hpo
            have hr3 := hra.put ho3 hc3
            have c5 : w2.cell? ⟨b, 5, none⟩ = _ := cell_of hra.bx 5
            have d5 : w3.cell? ⟨b, 5, none⟩ = _ := cell_of hr3.bx 5
            have f5 := free_of hr3.bx 5
            obtain ⟨pp, pn, pd, e1⟩ : ∃ a b c, pv = .slice a b c := by obtain ⟨tp, tc, pp, pc, _, e, _⟩ := HRS.out.os.reads; exact ⟨pp, _, pc, e⟩
            obtain ⟨pp2, pn2, pd2, e2⟩ : ∃ a b c, pv2 = .slice a b c := by obtain ⟨a, c, e⟩ := row_form hprow; exact ⟨a, _, c, e⟩
            subst e1 e2
            have hr4 := hr3.setP (.slice pp2 pn2 pd2)
            obtain ⟨w4, hw4⟩ : ∃ w4, w4 = w3.setCell ⟨b, 5, none⟩ (.slice pp2 pn2 pd2) := ⟨_, rfl⟩
            rw [← hw4] at hr4
            have d6 : w4.cell? ⟨b, 6, none⟩ = _ := cell_of hr4.bx 6
            have f6 := free_of hr4.bx 6
            have hr5 := hr4.setA 2
            obtain ⟨w5, hw5⟩ : ∃ w5, w5 = w4.setCell ⟨b, 6, none⟩ (.int .i64 ((2 : Nat) : Int)) := ⟨_, rfl⟩
            rw [← hw5] at hr5
            have g6 : w5.cell? ⟨b, 6, none⟩ = _ := cell_of hr5.bx 6
            have k6 := free_of hr5.bx 6
            have HR5 := keepH hr5
            have HR6 := keepH (hr5.setA 3)
            have HRUN := keepH hrun
            have HW4 := keepH hw4
            have HW5 : Hid (w5 = w4.setCell ⟨b, 6, none⟩ (.int .i64 2)) := keepH hw5
            by_cases hk9 : k < 20
            · have z3 : (k : Int) < 20 := by omega
              rw [if_pos (by omega)] at hat
              have HAT := keepH hat
              clear hk0 hk20 hk9 hst hst2 hk hul hm hne hat hra hrun hprow hgr hpo ho3 hc3 hr3 hr4 hr5 hw4 hw5
              go_upto_region 7 with (first | (at_builtin; refine wpList_append_runS rfl (.tmp 41) (.tmp 42) 44 rfl _ _ _ _ rfl rfl HRUN.out ?_) | go_in)
              rw [← HW4.out]
              go_upto_region 8 with fail
              rw [← HW5.out]
              go_wp2_with fail
              go_ret
              exact ⟨true, rfl, HR6.out.bel, fun _ => ⟨_, HG.out, ce, sl, stp, mu, _, _, _, _, by rw [HAT.out]; exact HR6.out, fun e => (nomatch e), fun x e => by injection e with e; exact e.symm⟩, fun e => by cases e⟩
            · have z3 : ¬ (k : Int) < 20 := by omega
              rw [if_neg (by omega)] at hat
              have HAT := keepH hat
              clear hk0 hk20 hk9 hst hst2 hk hul hm hne hat hra hrun hprow hgr hpo ho3 hc3 hr3 hr4 hr5 hw4 hw5
              go_upto_region 7 with (first | (at_builtin; refine wpList_append_runS rfl (.tmp 41) (.tmp 42) 44 rfl _ _ _ _ rfl rfl HRUN.out ?_) | go_in)
              rw [← HW4.out]
              go_upto_region 8 with fail
              rw [← HW5.out]
              go_wp2_with fail
              go_ret
              exact ⟨true, rfl, HR5.out.bel, fun _ => ⟨_, HG.out, ce, sl, stp, mu, _, _, _, _, by rw [HAT.out]; exact HR5.out, fun e => (nomatch e), fun x e => by injection e with e; exact e.symm⟩, fun e => by cases e⟩
      · have HNG : Hid (NoG st t) := keepH (no_pk HSP.out (.inr (.inl hm)))
        have HB := keepH (HRS.out.on B2)
        clear hm B2
        go_wp2_with fail
        go_ret
        exact ⟨false, rfl, HB.out.bel, fun e => (nomatch e), fun _ => HNG.out⟩
  · have q1 : ((a : Int) != 1) = true := by simp; omega
    have q2 : ((a : Int) != 2) = true := by simp; omega
    have HNG : Hid (NoG st t) := keepH (no_pk HSP.out (.inl ⟨fun e => h12 (.inl (HA.out.trans e)), fun e => h12 (.inr (HA.out.trans e))⟩))
    clear h12
    go_enter Tryz.func90, Tryz.ntmps90
    go_wp2_with fail
    go_ret
    exact ⟨false, rfl, HRS.out.bel, fun e => (nomatch e), fun _ => HNG.out⟩
end Go.Proofs.YtmmaniolaljjlaaGreatDoor
