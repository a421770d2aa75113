/- LockedModel: whatever comes in. -/
import Derived.Test.YtgaincicbgojjaaKJ
import Derived.Test.YtgaincicbgojjaaKX
namespace Go.Proofs.Ytgaincicbgojjaa
open Go.RowKit Go.Joins Go.ChangeShapes Go.WideShapes Go.Deep
set_option linter.unusedVariables false

theorem co_cfg : Try.prog.cellsOf 40 = 4 := by kernel_rfl
theorem cfg_open {H : Type} {enc : TypeId × Value → H} {W : World} {sp : Nat → Bool} {held : Bool} {fuel : Nat} {cs : List Value} {x : DataW H × List MemPlace} (hf : DataW.trod enc Try.prog W 0 sp held fuel 40 cs = some x) : ∃ (a b : Int) (c : Nat) (d : Int), cs = [.int .i64 a, .int .i64 b, .int .u64 (c : Int), .int .i64 d] := by
  obtain ⟨xs, n, hn, hx, hl, hlen, hh⟩ := DataW.trod_struct Try.underlying40 hf
  rw [co_cfg] at hl
  have h0 := (hh 0 _ rfl).trans (List.getElem?_eq_getElem (show 0 < xs.length by rw [hlen]; decide))
  obtain ⟨a, e0, _, _⟩ := DataW.trod_int Try.underlying3 h0
  have y0 : (cs.drop 0).take (Try.prog.cellsOf 3) = _ := e0
  rw [co_3] at y0
  have s0 : cs.drop 0 = _ ++ cs.drop 1 := cut_next y0
  have h1 := (hh 1 _ rfl).trans (List.getElem?_eq_getElem (show 1 < xs.length by rw [hlen]; decide))
  obtain ⟨b, e1, _, _⟩ := DataW.trod_int Try.underlying3 h1
  have y1 : (cs.drop 1).take (Try.prog.cellsOf 3) = _ := e1
  rw [co_3] at y1
  have s1 : cs.drop 1 = _ ++ cs.drop 2 := cut_next y1
  have h2 := (hh 2 _ rfl).trans (List.getElem?_eq_getElem (show 2 < xs.length by rw [hlen]; decide))
  obtain ⟨z2, e2, _, w2⟩ := DataW.trod_int Try.underlying23 h2
  obtain ⟨c, rfl, hc⟩ := nat_u64 w2
  have y2 : (cs.drop 2).take (Try.prog.cellsOf 23) = _ := e2
  rw [coU] at y2
  have s2 : cs.drop 2 = _ ++ cs.drop 3 := cut_next y2
  have h3 := (hh 3 _ rfl).trans (List.getElem?_eq_getElem (show 3 < xs.length by rw [hlen]; decide))
  obtain ⟨d, e3, _, _⟩ := DataW.trod_int Try.underlying3 h3
  have y3 : (cs.drop 3).take (Try.prog.cellsOf 3) = _ := e3
  rw [co_3] at y3
  have s3 : cs.drop 3 = _ ++ cs.drop 4 := cut_next y3
  have z : cs.drop 4 = [] := List.drop_eq_nil_of_le (by omega)
  rw [z] at s3
  rw [s3] at s2
  rw [s2] at s1
  rw [s1] at s0
  exact ⟨a, b, c, d, (List.drop_zero (l := cs)).symm.trans s0⟩
theorem model_all (a b : Int) (c : Nat) (d : Int) {Lp : Option Addr} {Lc : Nat} {l : List OpI} {W : World} (hO : OpsAt W Lp l) (hl : l.length ≤ 8796093021000) : Calls Try.prog 4 #[.agg #[.int .i64 a, .int .i64 b, .int .u64 (c : Int), .int .i64 d], .slice Lp l.length Lc] W fun e W' => e = .returned (.bool true) ∧ Chg (fun _ => False) W W' := by
  by_cases h : takesP a b (c : Int) = false ∨ d < 1 ∨ 1024 < d
  · exact model_bad a b (c : Int) d h _ W
  · have ht : takesP a b (c : Int) = true := by
      cases q : takesP a b (c : Int)
      · exact absurd (.inl q) h
      · rfl
    have hd : 1 ≤ d ∧ d ≤ 1024 := by
      constructor
      · rcases Int.lt_or_le d 1 with q | q
        · exact absurd (.inr (.inl q)) h
        · exact q
      · rcases Int.lt_or_le 1024 d with q | q
        · exact absurd (.inr (.inr q)) h
        · exact q
    have hb : 0 ≤ b := by
      unfold takesP at ht
      simp at ht
      omega
    obtain ⟨N, rfl⟩ : ∃ N : Nat, b = (N : Int) := ⟨b.toNat, by omega⟩
    obtain ⟨mu, rfl⟩ : ∃ mu : Nat, d = (mu : Int) := ⟨d.toNat, by omega⟩
    exact model_walk a N c mu ht (by omega) (by omega) hO hl
end Go.Proofs.Ytgaincicbgojjaa
