/- From what the rows list of package-level variables to the tables that the walks read. -/
import Derived.Test.YtoldkjlcfgpnoaaDoorWr
import Derived.ProofKit
import Derived.LaidMore
import Derived.OpenShut
import Derived.Stop.Joined
import Derived.Stop.LaidErr
import Derived.Lib.LaidTab
namespace Go.Proofs.YtoldkjlcfgpnoaaDoor
open Go.ChangeShapes Go.WideShapes Go.ChangeAt Go.WideMaps Go.WideElems Go.RowKit
set_option linter.unusedVariables false

theorem own : ownKnob Tryd.prog.godebug = none := by kernel_rfl
theorem gTexts : Tryd.prog.globalNamed "shutter/word.kindTexts" = some 0 := by kernel_rfl
theorem tTexts : (Tryd.prog.globals[0]?).map (·.type) = some 48 := by kernel_rfl
theorem gES : Tryd.prog.globalNamed "strconv.ErrSyntax" = some 2 := by kernel_rfl
theorem tES : (Tryd.prog.globals[2]?).map (·.type) = some 45 := by kernel_rfl
theorem gER : Tryd.prog.globalNamed "strconv.ErrRange" = some 3 := by kernel_rfl
theorem tER : (Tryd.prog.globals[3]?).map (·.type) = some 45 := by kernel_rfl
theorem gP10 : Tryd.prog.globalNamed "internal/strconv.uint64pow10" = some 4 := by kernel_rfl
theorem tP10 : (Tryd.prog.globals[4]?).map (·.type) = some 75 := by kernel_rfl
theorem cells9 : Tryd.prog.cellsOf 9 = 1 := by kernel_rfl
theorem cells23 : Tryd.prog.cellsOf 23 = 1 := by kernel_rfl
theorem cells75 : Tryd.prog.cellsOf 75 = 20 := by kernel_rfl
theorem cells85 : Tryd.prog.cellsOf 85 = 1 := by kernel_rfl
theorem star : "*" ++ "errors.errorString" = "*errors.errorString" := by decide
theorem rowErr (u : TypeId) (h : Tryd.prog.typeName? 3 u = some "*errors.errorString") : u = 83 :=
  typeName_ptr_named (nm := "errors.errorString") (by rw [star]; kernel_rfl) (by kernel_rfl) (by decide) u (by rw [star]; exact h)

theorem tb_of_laid {W : World} (h : laidMetH Tryd.prog Rows.wordTextsRow.laid W) : Tb W := by
  rw [MakeChecks.laidMetH_plain _ _ _ (by kernel_rfl)] at h
  have h3 : laidMet Tryd.prog (("internal/strconv.uint64pow10", Lib.tabData .u64 Lib.pow10Tab) :: _) W := h.tail.tail
  have hT := Lib.tabIs_of_head gP10 tP10 Tryd.underlying75 Tryd.underlying23 cells23 cells75 h3
  obtain ⟨a1, s1, hER, -, -, -⟩ := laid_sentinel h.tail.tail.tail gER tER Tryd.underlying45 rowErr Tryd.underlying83 Tryd.underlying85 rfl rfl Tryd.underlying9 cells85 cells9
  obtain ⟨a0, s0, hES, -, -, -⟩ := laid_sentinel h.tail.tail.tail.tail gES tES Tryd.underlying45 rowErr Tryd.underlying83 Tryd.underlying85 rfl rfl Tryd.underlying9 cells85 cells9
  obtain ⟨ps, ⟨g3, t3, cs3, f3, p3, q3, hg3, ht3, hv3, hd3, _, _⟩, _, _⟩ := h.tail.tail.tail.tail.tail
  obtain rfl := Option.some.inj (gTexts.symm.trans hg3)
  obtain rfl := Option.some.inj (tTexts.symm.trans ht3)
  refine ⟨hT, ⟨_, _, hES⟩, ⟨_, _, hER⟩, ?_⟩
  obtain ⟨xs, m1, rfl, hx1, hlen, hn4, hel⟩ := DataW.trod_array Tryd.underlying48 hd3
  intro k hk
  have h3 := hel k (by omega)
  simp only [Prod.mk.injEq, Rows.laid_shutter_word_kindTexts, DataW.agg.injEq] at hx1
  obtain ⟨e3, he3⟩ : ∃ y, xs[k]? = some y := ⟨_, List.getElem?_eq_getElem (by omega)⟩
  rw [he3, cells9] at h3
  have hm := congrArg (fun l => l[k]?) hx1.1
  simp only [List.getElem?_map, he3, Option.map_some] at hm
  obtain ⟨s, e1, e2, _⟩ := DataW.trod_string Tryd.underlying9 h3
  subst e2
  have hs : s.data.toList = ktL k := by
    have hk' : k = 0 ∨ k = 1 ∨ k = 2 ∨ k = 3 := by omega
    rcases hk' with rfl | rfl | rfl | rfl <;> (simp at hm; simp [ktL, ← hm])
  have hs2 : s = mkS (ktL k) := by rw [← hs, mkS_data]
  subst hs2
  have hcell := World.var?_cell hg3 hv3 k
  have h33 : cs3.toList[k]? = some (.string (mkS (ktL k))) := by
    have := congrArg (fun l => l[0]?) e1
    simpa [List.getElem?_take, List.getElem?_drop] using this
  rw [hcell]
  simpa using h33
end Go.Proofs.YtoldkjlcfgpnoaaDoor
