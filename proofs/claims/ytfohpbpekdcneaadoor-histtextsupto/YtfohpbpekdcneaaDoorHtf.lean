/- What spanOf tells of a line, pure; Split at a blank, Atoi at every text. -/
import Derived.Test.YtfohpbpekdcneaaDoorHte
namespace Go.Proofs.YtfohpbpekdcneaaDoor
open Go.RowKit Go.Shelf
set_option linter.unusedVariables false

def fieldsL (t : List UInt8) : List (List UInt8) := Lib.split (Lib.trimSuffix t [10]) [32]
def dashL (f : List UInt8) : List UInt8 := if f = [45] then Lib.itoa (-1) else f
theorem trim_line (s : Sp) : Lib.trimSuffix (lineL s) [10] = Lib.itoa s.th ++ 32 :: (Lib.itoa s.ix ++ 32 :: (Lib.itoa s.fr ++ 32 :: toL s.to)) := by
  have e : lineL s = (Lib.itoa s.th ++ 32 :: (Lib.itoa s.ix ++ 32 :: (Lib.itoa s.fr ++ 32 :: toL s.to))) ++ [10] := by unfold lineL; simp
  obtain ⟨r, hr⟩ : ∃ r, r = Lib.itoa s.th ++ 32 :: (Lib.itoa s.ix ++ 32 :: (Lib.itoa s.fr ++ 32 :: toL s.to)) := ⟨_, rfl⟩
  rw [e, ← hr]
  unfold Lib.trimSuffix Lib.hasSuffix
  rw [if_pos (List.isSuffixOf_iff_suffix.mpr (List.suffix_append _ _))]
  simp
theorem toL_no (n : Int) (b : UInt8) (hb : b.toNat = 32 ∨ b.toNat = 10) : noB b (toL n) := by
  unfold toL; split
  · intro x hx e
    simp at hx
    subst hx; subst e
    revert hb; decide
  · exact itoa_no n b hb
theorem fields_line (s : Sp) : fieldsL (lineL s) = [Lib.itoa s.th, Lib.itoa s.ix, Lib.itoa s.fr, toL s.to] := by
  unfold fieldsL
  rw [trim_line]
  exact split4 (itoa_no _ _ (by decide)) (itoa_no _ _ (by decide)) (itoa_no _ _ (by decide)) (toL_no _ _ (by decide))
theorem dash_line {s : Sp} (h : s.to < 0 → s.to = -1) : dashL (toL s.to) = Lib.itoa s.to := by
  unfold dashL toL
  by_cases q : s.to < 0
  · rw [if_pos q, if_pos rfl, h q]
  · rw [if_neg q, if_neg (itoa_dash _)]

def Gd (s : Sp) : Prop := s.Ok ∧ (s.to < 0 → s.to = -1)
/-- what spanOf tells of a line -/
structure SpR (t : List UInt8) (sp : Sp) (b : Bool) : Prop where
  ok : sp.Ok
  yes : b = true → t = lineL sp
  all : ∀ s, Gd s → t = lineL s → b = true ∧ sp = s
def sp0 : Sp := ⟨0, 0, 0, 0⟩
theorem sp0_ok : sp0.Ok := ⟨by unfold isI sp0; decide, by unfold isI sp0; decide, by unfold isI sp0; decide, by unfold isI sp0; decide⟩
theorem SpR.few {t : List UInt8} (h : (fieldsL t).length ≠ 4) : SpR t sp0 false :=
  ⟨sp0_ok, (fun h => by cases h), fun s _ e => absurd (by rw [e, fields_line]; rfl) h⟩
theorem line_G {t : List UInt8} {f0 f1 f2 f3 : List UInt8} (hf : fieldsL t = [f0, f1, f2, f3]) {s : Sp} (g : Gd s) (e : t = lineL s) : f0 = Lib.itoa s.th ∧ f1 = Lib.itoa s.ix ∧ f2 = Lib.itoa s.fr ∧ dashL f3 = Lib.itoa s.to := by
  rw [e, fields_line] at hf
  injection hf with a1 hf
  injection hf with a2 hf
  injection hf with a3 hf
  injection hf with a4 hf
  exact ⟨a1.symm, a2.symm, a3.symm, by rw [← a4]; exact dash_line g.2⟩
theorem SpR.bad {t : List UInt8} {f0 f1 f2 f3 f : List UInt8} (hf : fieldsL t = [f0, f1, f2, f3]) (hm : f ∈ [f0, f1, f2, dashL f3]) (hn : ∀ v, Lib.atoiAll f ≠ .ok v) : SpR t sp0 false := by
  refine ⟨sp0_ok, (fun h => by cases h), fun s g e => ?_⟩
  obtain ⟨a, b, c, d⟩ := line_G hf g e
  exfalso
  rw [a, b, c, d] at hm
  simp only [List.mem_cons, List.not_mem_nil, or_false] at hm
  rcases hm with rfl | rfl | rfl | rfl
  · exact hn _ (atoi_itoa _ g.1.th.1 g.1.th.2)
  · exact hn _ (atoi_itoa _ g.1.ix.1 g.1.ix.2)
  · exact hn _ (atoi_itoa _ g.1.fr.1 g.1.fr.2)
  · exact hn _ (atoi_itoa _ g.1.to.1 g.1.to.2)
theorem SpR.good {t : List UInt8} {f0 f1 f2 f3 : List UInt8} {a b c d : Int} (hf : fieldsL t = [f0, f1, f2, f3]) (ha : Lib.atoiAll f0 = .ok a) (hb : Lib.atoiAll f1 = .ok b) (hc : Lib.atoiAll f2 = .ok c) (hd : Lib.atoiAll (dashL f3) = .ok d)
    (hok : Sp.Ok ⟨a, b, c, d⟩) : SpR t ⟨a, b, c, d⟩ (decide (lineL ⟨a, b, c, d⟩ = t)) := by
  refine ⟨hok, fun h => (of_decide_eq_true h).symm, fun s g e => ?_⟩
  obtain ⟨e1, e2, e3, e4⟩ := line_G hf g e
  rw [e1, atoi_itoa _ g.1.th.1 g.1.th.2] at ha
  rw [e2, atoi_itoa _ g.1.ix.1 g.1.ix.2] at hb
  rw [e3, atoi_itoa _ g.1.fr.1 g.1.fr.2] at hc
  rw [e4, atoi_itoa _ g.1.to.1 g.1.to.2] at hd
  injection ha with ha
  injection hb with hb
  injection hc with hc
  injection hd with hd
  subst ha hb hc hd
  exact ⟨decide_eq_true e.symm, rfl⟩

theorem trim_any (t : List UInt8) (ht : t.length ≤ 200000000) (w : World) :
    Calls Tryd.prog 42 #[.string (mkS t), .string ⟨#[10]⟩] w fun e w' => e = .returned (.string (mkS (Lib.trimSuffix t [10]))) ∧ w' = w :=
  Any.strings_TrimSuffix Tryd.lays102 (mkS t) ⟨#[10]⟩ w (by rw [mkS_size]; omega)
theorem trim_len (t : List UInt8) : (Lib.trimSuffix t [10]).length ≤ t.length := by
  unfold Lib.trimSuffix; split
  · rw [List.length_take]; omega
  · exact Nat.le_refl _
theorem split_any (t : List UInt8) (ht : t.length ≤ 200000000) (w : World) (T : Tb w) :
    Calls Tryd.prog 41 #[.string (mkS t), .string ⟨#[32]⟩] w fun e w' => e = .returned (.slice (some ⟨w.heap.size, 0, none⟩) (Lib.split t [32]).length (Lib.split t [32]).length) ∧
      w' = w.alloc (.cells ((Lib.split t [32]).map (fun f => Value.string (mkS f))).toArray 9) := by
  obtain ⟨m, hm⟩ := T.ml
  refine (Any.strings_Split ({ Tryd.lays146 with } : Lays.n146 Tryd.prog Tryd.lays146_ren) (by kernel_rfl) (mkS t) ⟨#[32]⟩ m w (by rw [mkS_size]; omega) hm (by decide)).mono ?_
  rintro e w' ⟨rfl, rfl⟩
  have hl := Lib.splitB_all ⟨#[32]⟩ (by decide) 0 _ (mkS t) rfl
  have hd := Lib.splitB_data ⟨#[32]⟩ 0 (Lib.countB (mkS t) ⟨#[32]⟩) (mkS t)
  have hs : (Lib.splitB ⟨#[32]⟩ 0 (Lib.countB (mkS t) ⟨#[32]⟩) (mkS t)).map (·.data.toList) = Lib.split t [32] := hd
  have h2 : (Lib.split t [32]).length = Lib.countB (mkS t) ⟨#[32]⟩ + 1 := by rw [← hs, List.length_map, hl]
  rw [h2]
  refine ⟨rfl, ?_⟩
  congr 2
  rw [← hs, List.map_map]
  congr 1
theorem atoi_ok (f : List UInt8) (hf : f.length ≤ 200000000) (v : Int) (h : Lib.atoiAll f = .ok v) (w : World) :
    Calls Tryd.prog 22 #[.string (mkS f)] w fun e w' => e = .returned (.tuple #[.int .i64 v, .nilIface]) ∧ Below w.heap.size w w' := by
  refine (Any.strconv_Atoi_ok Tryd.lays172 (mkS f) (by rw [mkS_size]; omega) v (by simpa using h) w).mono ?_
  rintro e w' ⟨rfl, hw⟩
  refine ⟨rfl, ?_⟩
  rcases hw with rfl | ⟨t, rfl⟩
  · exact Below.refl _ _
  · exact Lib.bytesWorld_below _ _ _
theorem atoi_no (f : List UInt8) (hf : f.length ≤ 200000000) (h : ∀ v, Lib.atoiAll f ≠ .ok v) (w : World) (T : Tb w) :
    Calls Tryd.prog 22 #[.string (mkS f)] w fun e w' => (∃ (x : Int) (t : TypeId) (p : Value), e = .returned (.tuple #[.int .i64 x, .iface t p])) ∧ Below w.heap.size w w' := by
  cases hp : Lib.atoiAll f with
  | ok u => exact absurd hp (h u)
  | «syntax» =>
    obtain ⟨a, b, h2⟩ := T.es
    refine (Any.strconv_Atoi_syntax_var Tryd.lays172 (mkS f) (by rw [mkS_size]; omega) (by simpa using hp) a b w h2).mono ?_
    rintro e w' ⟨N, rfl, -, -, hb⟩
    exact ⟨⟨0, _, _, rfl⟩, hb⟩
  | range =>
    obtain ⟨a, b, h2⟩ := T.er
    refine (Any.strconv_Atoi_range_var Tryd.lays172 (mkS f) (by rw [mkS_size]; omega) (by simpa using hp) a b w h2).mono ?_
    rintro e w' ⟨N, rfl, -, -, hb⟩
    exact ⟨⟨_, _, _, rfl⟩, hb⟩
end Go.Proofs.YtfohpbpekdcneaaDoor
