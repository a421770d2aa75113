/- VcasStamps, whatever comes in. -/
import Derived.Test.YtadbgmcfjemkeaaId
import Derived.Test.YtadbgmcfjemkeaaIe
namespace Go.Proofs.Ytadbgmcfjemkeaa
open Go.RowKit Go.Shelf Go.ChangeShapes Go.WideShapes Go.ChangeAt
set_option linter.unusedVariables false

theorem pk_open {H : Type} {enc : TypeId × Value → H} {W : World} {sp : Nat → Bool} {held : Bool} {p : Option Addr} {n c : Nat} {d : DataW H} {ps : List MemPlace} (h : DataW.Trod enc Try.prog W 0 sp held 23 (.slice p n c) d ps) : (p = none ∧ n = 0 ∧ c = 0) ∨ ∃ a, p = some a ∧ n ≤ c := by
  obtain ⟨fuel, hf⟩ := h
  rcases open_ints Try.underlying23 Try.underlying3 coInt hf with ⟨hcs, _⟩ | ⟨a, len, cap, zs, hcs, _, hl, _⟩
  · simp [Value.cells] at hcs
    obtain ⟨rfl, rfl, rfl⟩ := hcs
    exact .inl ⟨rfl, rfl, rfl⟩
  · simp [Value.cells] at hcs
    obtain ⟨rfl, rfl, rfl⟩ := hcs
    exact .inr ⟨a, rfl, hl⟩
theorem run9_open2 {H : Type} {enc : TypeId × Value → H} {W : World} {sp : Nat → Bool} {held : Bool} {cs : Array Value} {d : DataW H} {ps : List MemPlace} (h : DataW.Trod enc Try.prog W 0 sp held 25 (.agg cs) d ps) (hM : Rows.uptoBulk d ≤ 1048576) :
    ∃ (pt : Option Addr) (ct : Nat) (L : List ThrV) (pp : Option Addr) (cp : Nat) (picks : List Int), cs = #[.slice pt L.length ct, .slice pp picks.length cp] ∧ ThsAt W pt L ∧ IReads W pp picks ∧ L.length ≤ 1048576 ∧ picks.length ≤ 1048576 ∧ ((pp = none ∧ picks.length = 0 ∧ cp = 0) ∨ ∃ a, pp = some a ∧ picks.length ≤ cp) := by
  obtain ⟨pt, ct, L, pp, cp, picks, hcs, hT, hP, hn0, hn1⟩ := run9_open h hM
  subst hcs
  refine ⟨pt, ct, L, pp, cp, picks, rfl, hT, hP, hn0, hn1, ?_⟩
  obtain ⟨fuel, hf⟩ := h
  obtain ⟨xs, n, hn, hx, hl, hlen, hh⟩ := DataW.trod_struct Try.underlying25 hf
  subst hn
  rw [coR] at hl
  obtain ⟨c0, c1, hc⟩ := list2 hl
  obtain ⟨y0, y1, rfl⟩ := list2 (show xs.length = 2 from hlen)
  rw [hc] at hh
  have h1 : DataW.trod enc Try.prog W 0 sp held n 23 [c1] = some y1 := by have := hh 1 _ rfl; simpa [coIs, coCss] using this
  have e1 : c1 = .slice pp picks.length cp := by simp [Value.cells] at hc; exact hc.2.symm
  subst e1
  exact pk_open (d := y1.1) (ps := y1.2) ⟨n, by simpa [Value.cells] using h1⟩
theorem stamps_any (pt pp : Option Addr) (ct cp : Nat) (L : List ThrV) (picks : List Int) (cut : Int) (w : World) (hT : ThsAt w pt L) (hP : IReads w pp picks) (hpk : (pp = none ∧ picks.length = 0 ∧ cp = 0) ∨ ∃ a, pp = some a ∧ picks.length ≤ cp) (hn0 : L.length ≤ 1048576) (hn1 : picks.length ≤ 1048576) :
    Calls Try.prog 3 #[.agg #[.slice pt L.length ct, .slice pp picks.length cp], .int .i64 cut] w fun e w' => e = .returned (.bool true) ∧ Chg (fun _ => False) w w' := by
  rcases hpk with ⟨rfl, h, hc⟩ | ⟨a, rfl, h⟩
  · exact stamps_walk0 pt ct cp L picks cut w hT hP (by omega) (keepH hc) hn0 hn1
  · exact stamps_walk pt a ct cp L picks cut w hT hP h hn0 hn1
end Go.Proofs.Ytadbgmcfjemkeaa
