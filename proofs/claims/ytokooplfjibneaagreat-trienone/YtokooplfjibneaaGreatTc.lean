/- The trie's procs: a step goes by what is next. -/
import Derived.Test.YtokooplfjibneaaGreatTb
import Derived.Test.YtokooplfjibneaaGreatNdX
namespace Go.Proofs.YtokooplfjibneaaGreat
open Go.RowKit Go.Shelf
set_option linter.unusedVariables false

theorem neq_fn (f : Fn) (fs cp : Array Value) (w : World) : (binOp .neq 47 (.func f fs cp) .nilFunc).run Tryz.prog w = .ok (.bool true) w := by kernel_rfl
theorem neq_fn0 (w : World) : (binOp .neq 47 .nilFunc .nilFunc).run Tryz.prog w = .ok (.bool false) w := by kernel_rfl
theorem eql_fn (f : Fn) (fs cp : Array Value) (w : World) : (binOp .eql 47 (.func f fs cp) .nilFunc).run Tryz.prog w = .ok (.bool false) w := by kernel_rfl
theorem eql_fn0 (w : World) : (binOp .eql 47 .nilFunc .nilFunc).run Tryz.prog w = .ok (.bool true) w := by kernel_rfl

set_option maxRecDepth 100000 in
theorem step_tDownF {W : World} {p : Nat} {t : TypeId} {l : List Value} (hp : Blk W p t l) (h16 : l[16]? = some (fnV 59 p)) (V : Value) (R : World → Prop) (hN : Calls Tryz.prog 59 #[.pointer (some ⟨p, 0, none⟩), V] W fun e w => e = .returned (.tuple #[]) ∧ R w) (hK : ∀ w, R w → ∃ f fs, w.cell? ⟨p, 16, none⟩ = some (.func f fs #[])) :
    Calls Tryz.prog 27 #[.pointer (some ⟨p, 0, none⟩), V] W fun e w => e = .returned (.bool false) ∧ R w := by
  have c16 : W.cell? ⟨p, 16, none⟩ = some (.func (.func 59) #[.pointer (some ⟨p, 0, none⟩)] #[]) := (hp.cell 16).trans h16
  have b1 := neq_fn
  have b2 := eql_fn
  have b3 := eql_fn0
  have HN := keepH hN
  have HK := keepH hK
  clear hp h16 hN hK
  go_enter Tryz.func27, Tryz.ntmps27
  go_wp2_with fail
  refine HN.out.mono ?_
  rintro e w ⟨rfl, hr⟩
  obtain ⟨f, fs, hc⟩ := HK.out _ hr
  have HR := keepH hr
  clear hr HN HK c16
  go_wp2_with fail
  go_ret
  exact ⟨by simp, HR.out⟩

set_option maxRecDepth 100000 in
theorem step_tDownT {W : World} {p : Nat} {t : TypeId} {l : List Value} (hp : Blk W p t l) (h16 : l[16]? = some (fnV 59 p)) (V : Value) (R : World → Prop) (hN : Calls Tryz.prog 59 #[.pointer (some ⟨p, 0, none⟩), V] W fun e w => e = .returned (.tuple #[]) ∧ R w) (hK : ∀ w, R w → w.cell? ⟨p, 16, none⟩ = some (.nilFunc)) :
    Calls Tryz.prog 27 #[.pointer (some ⟨p, 0, none⟩), V] W fun e w => e = .returned (.bool true) ∧ R w := by
  have c16 : W.cell? ⟨p, 16, none⟩ = some (.func (.func 59) #[.pointer (some ⟨p, 0, none⟩)] #[]) := (hp.cell 16).trans h16
  have b1 := neq_fn
  have b2 := eql_fn
  have b3 := eql_fn0
  have HN := keepH hN
  have HK := keepH hK
  clear hp h16 hN hK
  go_enter Tryz.func27, Tryz.ntmps27
  go_wp2_with fail
  refine HN.out.mono ?_
  rintro e w ⟨rfl, hr⟩
  have hc := HK.out _ hr
  have HR := keepH hr
  clear hr HN HK c16
  go_wp2_with fail
  go_ret
  exact ⟨by simp, HR.out⟩

set_option maxRecDepth 100000 in
theorem step_tLookKeyF {W : World} {p : Nat} {t : TypeId} {l : List Value} (hp : Blk W p t l) (h16 : l[16]? = some (fnV 76 p)) (V : Value) (R : World → Prop) (hN : Calls Tryz.prog 76 #[.pointer (some ⟨p, 0, none⟩), V] W fun e w => e = .returned (.tuple #[]) ∧ R w) (hK : ∀ w, R w → ∃ f fs, w.cell? ⟨p, 16, none⟩ = some (.func f fs #[])) :
    Calls Tryz.prog 27 #[.pointer (some ⟨p, 0, none⟩), V] W fun e w => e = .returned (.bool false) ∧ R w := by
  have c16 : W.cell? ⟨p, 16, none⟩ = some (.func (.func 76) #[.pointer (some ⟨p, 0, none⟩)] #[]) := (hp.cell 16).trans h16
  have b1 := neq_fn
  have b2 := eql_fn
  have b3 := eql_fn0
  have HN := keepH hN
  have HK := keepH hK
  clear hp h16 hN hK
  go_enter Tryz.func27, Tryz.ntmps27
  go_wp2_with fail
  refine HN.out.mono ?_
  rintro e w ⟨rfl, hr⟩
  obtain ⟨f, fs, hc⟩ := HK.out _ hr
  have HR := keepH hr
  clear hr HN HK c16
  go_wp2_with fail
  go_ret
  exact ⟨by simp, HR.out⟩

set_option maxRecDepth 100000 in
theorem step_tLookKeyT {W : World} {p : Nat} {t : TypeId} {l : List Value} (hp : Blk W p t l) (h16 : l[16]? = some (fnV 76 p)) (V : Value) (R : World → Prop) (hN : Calls Tryz.prog 76 #[.pointer (some ⟨p, 0, none⟩), V] W fun e w => e = .returned (.tuple #[]) ∧ R w) (hK : ∀ w, R w → w.cell? ⟨p, 16, none⟩ = some (.nilFunc)) :
    Calls Tryz.prog 27 #[.pointer (some ⟨p, 0, none⟩), V] W fun e w => e = .returned (.bool true) ∧ R w := by
  have c16 : W.cell? ⟨p, 16, none⟩ = some (.func (.func 76) #[.pointer (some ⟨p, 0, none⟩)] #[]) := (hp.cell 16).trans h16
  have b1 := neq_fn
  have b2 := eql_fn
  have b3 := eql_fn0
  have HN := keepH hN
  have HK := keepH hK
  clear hp h16 hN hK
  go_enter Tryz.func27, Tryz.ntmps27
  go_wp2_with fail
  refine HN.out.mono ?_
  rintro e w ⟨rfl, hr⟩
  have hc := HK.out _ hr
  have HR := keepH hr
  clear hr HN HK c16
  go_wp2_with fail
  go_ret
  exact ⟨by simp, HR.out⟩

set_option maxRecDepth 100000 in
theorem step_tLookValueF {W : World} {p : Nat} {t : TypeId} {l : List Value} (hp : Blk W p t l) (h16 : l[16]? = some (fnV 90 p)) (V : Value) (R : World → Prop) (hN : Calls Tryz.prog 90 #[.pointer (some ⟨p, 0, none⟩), V] W fun e w => e = .returned (.tuple #[]) ∧ R w) (hK : ∀ w, R w → ∃ f fs, w.cell? ⟨p, 16, none⟩ = some (.func f fs #[])) :
    Calls Tryz.prog 27 #[.pointer (some ⟨p, 0, none⟩), V] W fun e w => e = .returned (.bool false) ∧ R w := by
  have c16 : W.cell? ⟨p, 16, none⟩ = some (.func (.func 90) #[.pointer (some ⟨p, 0, none⟩)] #[]) := (hp.cell 16).trans h16
  have b1 := neq_fn
  have b2 := eql_fn
  have b3 := eql_fn0
  have HN := keepH hN
  have HK := keepH hK
  clear hp h16 hN hK
  go_enter Tryz.func27, Tryz.ntmps27
  go_wp2_with fail
  refine HN.out.mono ?_
  rintro e w ⟨rfl, hr⟩
  obtain ⟨f, fs, hc⟩ := HK.out _ hr
  have HR := keepH hr
  clear hr HN HK c16
  go_wp2_with fail
  go_ret
  exact ⟨by simp, HR.out⟩

set_option maxRecDepth 100000 in
theorem step_tLookValueT {W : World} {p : Nat} {t : TypeId} {l : List Value} (hp : Blk W p t l) (h16 : l[16]? = some (fnV 90 p)) (V : Value) (R : World → Prop) (hN : Calls Tryz.prog 90 #[.pointer (some ⟨p, 0, none⟩), V] W fun e w => e = .returned (.tuple #[]) ∧ R w) (hK : ∀ w, R w → w.cell? ⟨p, 16, none⟩ = some (.nilFunc)) :
    Calls Tryz.prog 27 #[.pointer (some ⟨p, 0, none⟩), V] W fun e w => e = .returned (.bool true) ∧ R w := by
  have c16 : W.cell? ⟨p, 16, none⟩ = some (.func (.func 90) #[.pointer (some ⟨p, 0, none⟩)] #[]) := (hp.cell 16).trans h16
  have b1 := neq_fn
  have b2 := eql_fn
  have b3 := eql_fn0
  have HN := keepH hN
  have HK := keepH hK
  clear hp h16 hN hK
  go_enter Tryz.func27, Tryz.ntmps27
  go_wp2_with fail
  refine HN.out.mono ?_
  rintro e w ⟨rfl, hr⟩
  have hc := HK.out _ hr
  have HR := keepH hr
  clear hr HN HK c16
  go_wp2_with fail
  go_ret
  exact ⟨by simp, HR.out⟩

set_option maxRecDepth 100000 in
theorem step_tMakeLeafF {W : World} {p : Nat} {t : TypeId} {l : List Value} (hp : Blk W p t l) (h16 : l[16]? = some (fnV 64 p)) (V : Value) (R : World → Prop) (hN : Calls Tryz.prog 64 #[.pointer (some ⟨p, 0, none⟩), V] W fun e w => e = .returned (.tuple #[]) ∧ R w) (hK : ∀ w, R w → ∃ f fs, w.cell? ⟨p, 16, none⟩ = some (.func f fs #[])) :
    Calls Tryz.prog 27 #[.pointer (some ⟨p, 0, none⟩), V] W fun e w => e = .returned (.bool false) ∧ R w := by
  have c16 : W.cell? ⟨p, 16, none⟩ = some (.func (.func 64) #[.pointer (some ⟨p, 0, none⟩)] #[]) := (hp.cell 16).trans h16
  have b1 := neq_fn
  have b2 := eql_fn
  have b3 := eql_fn0
  have HN := keepH hN
  have HK := keepH hK
  clear hp h16 hN hK
  go_enter Tryz.func27, Tryz.ntmps27
  go_wp2_with fail
  refine HN.out.mono ?_
  rintro e w ⟨rfl, hr⟩
  obtain ⟨f, fs, hc⟩ := HK.out _ hr
  have HR := keepH hr
  clear hr HN HK c16
  go_wp2_with fail
  go_ret
  exact ⟨by simp, HR.out⟩

set_option maxRecDepth 100000 in
theorem step_tMakeLeafT {W : World} {p : Nat} {t : TypeId} {l : List Value} (hp : Blk W p t l) (h16 : l[16]? = some (fnV 64 p)) (V : Value) (R : World → Prop) (hN : Calls Tryz.prog 64 #[.pointer (some ⟨p, 0, none⟩), V] W fun e w => e = .returned (.tuple #[]) ∧ R w) (hK : ∀ w, R w → w.cell? ⟨p, 16, none⟩ = some (.nilFunc)) :
    Calls Tryz.prog 27 #[.pointer (some ⟨p, 0, none⟩), V] W fun e w => e = .returned (.bool true) ∧ R w := by
  have c16 : W.cell? ⟨p, 16, none⟩ = some (.func (.func 64) #[.pointer (some ⟨p, 0, none⟩)] #[]) := (hp.cell 16).trans h16
  have b1 := neq_fn
  have b2 := eql_fn
  have b3 := eql_fn0
  have HN := keepH hN
  have HK := keepH hK
  clear hp h16 hN hK
  go_enter Tryz.func27, Tryz.ntmps27
  go_wp2_with fail
  refine HN.out.mono ?_
  rintro e w ⟨rfl, hr⟩
  have hc := HK.out _ hr
  have HR := keepH hr
  clear hr HN HK c16
  go_wp2_with fail
  go_ret
  exact ⟨by simp, HR.out⟩

set_option maxRecDepth 100000 in
theorem step_tDoSwapF {W : World} {p : Nat} {t : TypeId} {l : List Value} (hp : Blk W p t l) (h16 : l[16]? = some (fnV 82 p)) (V : Value) (R : World → Prop) (hN : Calls Tryz.prog 82 #[.pointer (some ⟨p, 0, none⟩), V] W fun e w => e = .returned (.tuple #[]) ∧ R w) (hK : ∀ w, R w → ∃ f fs, w.cell? ⟨p, 16, none⟩ = some (.func f fs #[])) :
    Calls Tryz.prog 27 #[.pointer (some ⟨p, 0, none⟩), V] W fun e w => e = .returned (.bool false) ∧ R w := by
  have c16 : W.cell? ⟨p, 16, none⟩ = some (.func (.func 82) #[.pointer (some ⟨p, 0, none⟩)] #[]) := (hp.cell 16).trans h16
  have b1 := neq_fn
  have b2 := eql_fn
  have b3 := eql_fn0
  have HN := keepH hN
  have HK := keepH hK
  clear hp h16 hN hK
  go_enter Tryz.func27, Tryz.ntmps27
  go_wp2_with fail
  refine HN.out.mono ?_
  rintro e w ⟨rfl, hr⟩
  obtain ⟨f, fs, hc⟩ := HK.out _ hr
  have HR := keepH hr
  clear hr HN HK c16
  go_wp2_with fail
  go_ret
  exact ⟨by simp, HR.out⟩

set_option maxRecDepth 100000 in
theorem step_tDoSwapT {W : World} {p : Nat} {t : TypeId} {l : List Value} (hp : Blk W p t l) (h16 : l[16]? = some (fnV 82 p)) (V : Value) (R : World → Prop) (hN : Calls Tryz.prog 82 #[.pointer (some ⟨p, 0, none⟩), V] W fun e w => e = .returned (.tuple #[]) ∧ R w) (hK : ∀ w, R w → w.cell? ⟨p, 16, none⟩ = some (.nilFunc)) :
    Calls Tryz.prog 27 #[.pointer (some ⟨p, 0, none⟩), V] W fun e w => e = .returned (.bool true) ∧ R w := by
  have c16 : W.cell? ⟨p, 16, none⟩ = some (.func (.func 82) #[.pointer (some ⟨p, 0, none⟩)] #[]) := (hp.cell 16).trans h16
  have b1 := neq_fn
  have b2 := eql_fn
  have b3 := eql_fn0
  have HN := keepH hN
  have HK := keepH hK
  clear hp h16 hN hK
  go_enter Tryz.func27, Tryz.ntmps27
  go_wp2_with fail
  refine HN.out.mono ?_
  rintro e w ⟨rfl, hr⟩
  have hc := HK.out _ hr
  have HR := keepH hr
  clear hr HN HK c16
  go_wp2_with fail
  go_ret
  exact ⟨by simp, HR.out⟩

set_option maxRecDepth 100000 in
theorem step_Find {W : World} {p : Nat} (V : Value) (d : Bool) (R : World → Prop) (hN : Calls Tryz.prog 27 #[.pointer (some ⟨p, 0, none⟩), V] W fun e w => e = .returned (.bool d) ∧ R w) :
    Calls Tryz.prog 7 #[.pointer (some ⟨p, 0, none⟩), V] W fun e w => e = .returned (.bool d) ∧ R w := by
  have HN := keepH hN
  clear hN
  go_enter Tryz.func7, Tryz.ntmps7
  go_wp2_with fail
  refine HN.out.mono ?_
  rintro e w ⟨rfl, hr⟩
  have HR := keepH hr
  clear hr HN
  go_wp2_with fail
  go_ret
  exact ⟨by simp, HR.out⟩

set_option maxRecDepth 100000 in
theorem nil_FindStep (V : Value) (W : World) : Calls Tryz.prog 7 #[.pointer none, V] W fun e W' => e = .returned (.bool true) ∧ W' = W := by
  go_enter Tryz.func7, Tryz.ntmps7
  go_wp2_with fail
  go_ret
  exact ⟨by simp, rfl⟩

set_option maxRecDepth 100000 in
theorem step_Put {W : World} {p : Nat} (V : Value) (d : Bool) (R : World → Prop) (hN : Calls Tryz.prog 27 #[.pointer (some ⟨p, 0, none⟩), V] W fun e w => e = .returned (.bool d) ∧ R w) :
    Calls Tryz.prog 8 #[.pointer (some ⟨p, 0, none⟩), V] W fun e w => e = .returned (.bool d) ∧ R w := by
  have HN := keepH hN
  clear hN
  go_enter Tryz.func8, Tryz.ntmps8
  go_wp2_with fail
  refine HN.out.mono ?_
  rintro e w ⟨rfl, hr⟩
  have HR := keepH hr
  clear hr HN
  go_wp2_with fail
  go_ret
  exact ⟨by simp, HR.out⟩

set_option maxRecDepth 100000 in
theorem nil_PutStep (V : Value) (W : World) : Calls Tryz.prog 8 #[.pointer none, V] W fun e W' => e = .returned (.bool true) ∧ W' = W := by
  go_enter Tryz.func8, Tryz.ntmps8
  go_wp2_with fail
  go_ret
  exact ⟨by simp, rfl⟩

set_option maxRecDepth 100000 in
theorem nil_RemoveStep (V : Value) (W : World) : Calls Tryz.prog 9 #[.pointer none, V] W fun e W' => e = .returned (.bool true) ∧ W' = W := by
  go_enter Tryz.func9, Tryz.ntmps9
  go_wp2_with fail
  go_ret
  exact ⟨by simp, rfl⟩

set_option maxRecDepth 100000 in
theorem nil_SwapStep (V : Value) (W : World) : Calls Tryz.prog 10 #[.pointer none, V] W fun e W' => e = .returned (.bool true) ∧ W' = W := by
  go_enter Tryz.func10, Tryz.ntmps10
  go_wp2_with fail
  go_ret
  exact ⟨by simp, rfl⟩

end Go.Proofs.YtokooplfjibneaaGreat
