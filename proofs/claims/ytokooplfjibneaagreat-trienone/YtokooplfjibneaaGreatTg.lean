/- The trie's Put: from the end of its way on. -/
import Derived.Test.YtokooplfjibneaaGreatTf
namespace Go.Proofs.YtokooplfjibneaaGreat
open Go.RowKit Go.Shelf
set_option linter.unusedVariables false

def Hangs (W w : World) (p : Nat) (t : TypeId) (cam key mixd obj lvl : Nat) (rd : Value) (wd lf ly : Nat) (fd : Bool) (fx : Nat) (no ot sa : Value) (ad : Bool) (ax x : Nat) (fk cp : Value) : Prop :=
  Chg (fun k => k = p) W w ∧ (∃ g, W.heap.size ≤ g ∧ IsLeaf w g false 0 key x 0 ∧ Blk w p t (wayL cam key mixd obj lvl rd wd lf ly fd fx (fnV 64 p) no ot sa ad ax (putR x (.pointer (some ⟨g, 0, none⟩)) (fnV 53 p) fk cp)))
set_option maxRecDepth 100000 in
theorem hang_leaf {W : World} {p : Nat} {t : TypeId} {cam key mixd obj lvl wd lf ly fx ax x : Nat} {rd nx no ot sa th fk cp : Value} {fd ad : Bool} (hp : Blk W p t (wayL cam key mixd obj lvl rd wd lf ly fd fx nx no ot sa ad ax (putR x (.pointer none) th fk cp))) :
    Calls Tryz.prog 37 #[.pointer (some ⟨p, 0, none⟩)] W fun e w => e = .returned (.tuple #[]) ∧ Hangs W w p t cam key mixd obj lvl rd wd lf ly fd fx no ot sa ad ax x fk cp := by
  have hmf : ∀ (fn : Fn) (first cap : Array Value) (w : World), (Instr.makeFunc fn first cap).run Tryz.prog w = .ok (.func fn first cap) w := fun _ _ _ _ => rfl
  have H := keepH (with_leaf hp 53)
  clear hp
  go_enter Tryz.func37, Tryz.ntmps37
  go_wp2_with fail
  refine H.out.mono ?_
  rintro e w ⟨rfl, hr⟩
  have HR : Hid (Hangs W w p t cam key mixd obj lvl rd wd lf ly fd fx no ot sa ad ax x fk cp) := hr
  clear hr
  go_wp2_with fail
  go_end0
  exact ⟨rfl, HR.out⟩
set_option maxRecDepth 100000 in
set_option maxHeartbeats 1000000 in
theorem down_hang {W : World} {p : Nat} {t : TypeId} {cam key mixd obj lvl wd lf ly fx ax q x : Nat} {nx ot sa th fk cp : Value} {fd ad : Bool} (hp : Blk W p t (wayL cam key mixd obj lvl (.pointer (some ⟨q, 0, none⟩)) wd lf ly fd fx nx (fnV 37 p) ot sa ad ax (putR x (.pointer none) th fk cp))) (V : Value) (R : World → Prop) (hS : Calls Tryz.prog 74 #[.pointer (some ⟨q, 0, none⟩), V] W fun e w => e = .returned (.bool true) ∧ R w) (hP : ∀ w, R w → Blk w p t (wayL cam key mixd obj lvl (.pointer (some ⟨q, 0, none⟩)) wd lf ly fd fx nx (fnV 37 p) ot sa ad ax (putR x (.pointer none) th fk cp))) (hV : ∀ w, R w → ∃ u lq, Blk w q u lq ∧ lq[8]? = some (.int .u64 0)) :
    Calls Tryz.prog 59 #[.pointer (some ⟨p, 0, none⟩), V] W fun e w => e = .returned (.tuple #[]) ∧ ∃ y, R y ∧ Hangs y w p t cam key mixd obj lvl (.pointer (some ⟨q, 0, none⟩)) 0 lf ly fd fx (fnV 37 p) ot sa ad ax x fk cp := by
  have c5 : W.cell? ⟨p, 5, none⟩ = some (.pointer (some ⟨q, 0, none⟩)) := hp.cell 5
  have HS := keepH hS
  have HP := keepH hP
  have HV := keepH hV
  clear hp hS hP hV
  go_enter Tryz.func59, Tryz.ntmps59
  go_wp2_with fail
  refine HS.out.mono ?_
  rintro e w ⟨rfl, hr⟩
  have HR := keepH hr
  have P1 := keepH (HP.out w hr)
  obtain ⟨u, lq, B1, e8⟩ := HV.out w hr
  have HB1 := keepH B1
  have H8 := keepH e8
  clear hr HS HP HV c5 B1 e8
  have c5 : w.cell? ⟨p, 5, none⟩ = some (.pointer (some ⟨q, 0, none⟩)) := P1.out.cell 5
  have c6 : w.cell? ⟨p, 6, none⟩ = some (.int .u64 (wd : Int)) := P1.out.cell 6
  have f6 := P1.out.free 6
  have P2 := keepH (P1.out.set 6 (.int .u64 0))
  have d6 : (w.setCell ⟨p, 6, none⟩ (.int .u64 0)).cell? ⟨p, 6, none⟩ = some (.int .u64 0) := P2.out.cell 6
  have d17 : (w.setCell ⟨p, 6, none⟩ (.int .u64 0)).cell? ⟨p, 17, none⟩ = some (.func (.func 37) #[.pointer (some ⟨p, 0, none⟩)] #[]) := P2.out.cell 17
  go_wp2_with fail
  refine (rd_value (x := 0) HB1.out H8.out).mono ?_
  rintro e w1 ⟨rfl, rfl⟩
  go_wp2_with fail
  refine (split_0 _).mono ?_
  rintro e w2 ⟨rfl, rfl⟩
  go_wp2_with fail
  refine (hang_leaf (wd := 0) P2.out).mono ?_
  rintro e w3 ⟨rfl, C3, g, hg, L3, P3⟩
  have HZ : Hid (Hangs w1 w3 p t cam key mixd obj lvl (.pointer (some ⟨q, 0, none⟩)) 0 lf ly fd fx (fnV 37 p) ot sa ad ax x fk cp) := ⟨(setP _).trans C3 (fun _ _ x => x) (fun _ _ x => x), g, by simpa [World.setCell] using hg, L3, P3⟩
  clear C3 hg L3 P3
  go_wp2_with fail
  go_end0
  exact ⟨rfl, w1, HR.out, HZ.out⟩
set_option maxRecDepth 100000 in
set_option maxHeartbeats 1000000 in
theorem swap_leaf {W : World} {p : Nat} {t : TypeId} {cam key mixd obj lvl wd lf ly fx ax x g : Nat} {rd nx no ot sa th fk cp : Value} {fd ad : Bool} (hp : Blk W p t (wayL cam key mixd obj lvl rd wd lf ly fd fx nx no ot sa ad ax (putR x (.pointer (some ⟨g, 0, none⟩)) th fk cp))) {over : Bool} {err k2 x2 now : Nat} (hl : IsLeaf W g over err k2 x2 now) :
    Calls Tryz.prog 53 #[.pointer (some ⟨p, 0, none⟩)] W fun e w => e = .returned (.tuple #[]) ∧ Swaps W w p t cam key mixd obj lvl rd wd lf ly fd fx no ot sa ad ax x (.pointer (some ⟨g, 0, none⟩)) th fk now := by
  have c28 : W.cell? ⟨p, 28, none⟩ = some (.pointer (some ⟨g, 0, none⟩)) := hp.cell 28
  have HP := keepH hp
  have HL := keepH hl
  clear hp hl
  go_enter Tryz.func53, Tryz.ntmps53
  go_wp2_with fail
  refine (leaf_word g _ _ _ _ _ _ HL.out).mono ?_
  rintro e w1 ⟨rfl, rfl⟩
  go_wp2_with fail
  refine (swap_any HP.out now).mono ?_
  rintro e w2 ⟨rfl, hr⟩
  have HR := keepH hr
  clear hr
  go_wp2_with fail
  go_end0
  exact ⟨rfl, HR.out⟩
set_option maxRecDepth 100000 in
set_option maxHeartbeats 1000000 in
theorem make_leaf {W : World} {p : Nat} {t : TypeId} {cam key mixd obj lvl wd lf ly fx ax x g : Nat} {rd nx no ot sa fk cp : Value} {fd ad : Bool} (hp : Blk W p t (wayL cam key mixd obj lvl rd wd lf ly fd fx nx no ot sa ad ax (putR x (.pointer (some ⟨g, 0, none⟩)) (fnV 53 p) fk cp))) (V : Value) (R : World → Prop) (k2 x2 now : Nat) (hS : Calls Tryz.prog 79 #[.pointer (some ⟨g, 0, none⟩), V] W fun e w => e = .returned (.bool true) ∧ R w) (hP : ∀ w, R w → Blk w p t (wayL cam key mixd obj lvl rd wd lf ly fd fx nx no ot sa ad ax (putR x (.pointer (some ⟨g, 0, none⟩)) (fnV 53 p) fk cp))) (hV : ∀ w, R w → IsLeaf w g true 0 k2 x2 now) :
    Calls Tryz.prog 64 #[.pointer (some ⟨p, 0, none⟩), V] W fun e w => e = .returned (.tuple #[]) ∧ ∃ y, R y ∧ Swaps y w p t cam key mixd obj lvl rd wd lf ly fd fx no ot sa ad ax x (.pointer (some ⟨g, 0, none⟩)) (fnV 53 p) fk now := by
  have c28 : W.cell? ⟨p, 28, none⟩ = some (.pointer (some ⟨g, 0, none⟩)) := hp.cell 28
  have HS := keepH hS
  have HP := keepH hP
  have HV := keepH hV
  clear hp hS hP hV
  go_enter Tryz.func64, Tryz.ntmps64
  go_wp2_with fail
  refine HS.out.mono ?_
  rintro e w ⟨rfl, hr⟩
  have HR := keepH hr
  have P1 := keepH (HP.out w hr)
  have L1 := keepH (HV.out w hr)
  clear hr HS HP HV c28
  have c28 : w.cell? ⟨p, 28, none⟩ = some (.pointer (some ⟨g, 0, none⟩)) := P1.out.cell 28
  have c29 : w.cell? ⟨p, 29, none⟩ = some (.func (.func 53) #[.pointer (some ⟨p, 0, none⟩)] #[]) := P1.out.cell 29
  go_wp2_with fail
  refine (leaf_errno g _ _ _ _ _ _ L1.out).mono ?_
  rintro e w1 ⟨rfl, rfl⟩
  go_wp2_with fail
  refine (swap_leaf P1.out L1.out).mono ?_
  rintro e w2 ⟨rfl, hr⟩
  have HZ := keepH hr
  clear hr
  go_wp2_with fail
  go_end0
  exact ⟨rfl, w1, HR.out, HZ.out⟩
set_option maxRecDepth 100000 in
theorem do_swapF {W : World} {p : Nat} {t : TypeId} {l : List Value} {c : Nat} (hp : Blk W p t l) (h31 : l[31]? = some (.pointer (some ⟨c, 0, none⟩))) (V : Value) (R : World → Prop) (hS : Calls Tryz.prog 95 #[.pointer (some ⟨c, 0, none⟩), V] W fun e w => e = .returned (.bool false) ∧ R w) :
    Calls Tryz.prog 82 #[.pointer (some ⟨p, 0, none⟩), V] W fun e w => e = .returned (.tuple #[]) ∧ R w := by
  have c31 : W.cell? ⟨p, 31, none⟩ = some (.pointer (some ⟨c, 0, none⟩)) := (hp.cell 31).trans h31
  have HS := keepH hS
  clear hp h31 hS
  go_enter Tryz.func82, Tryz.ntmps82
  go_wp2_with fail
  refine HS.out.mono ?_
  rintro e w ⟨rfl, hr⟩
  have HR := keepH hr
  clear hr HS
  go_wp2_with fail
  (try simp only [Exit.inBlock, Exit.then])
  refine bodyPost_ret (results_none rfl _ _ _) rfl ?_
  exact ⟨rfl, HR.out⟩
set_option maxRecDepth 100000 in
set_option maxHeartbeats 1000000 in
theorem do_swapT {W : World} {p : Nat} {t : TypeId} {cam key mixd obj lvl wd lf ly fx ax x c : Nat} {rd nx no ot sa lp th fk : Value} {fd ad : Bool} (hp : Blk W p t (wayL cam key mixd obj lvl rd wd lf ly fd fx nx no ot sa ad ax (putR x lp th fk (.pointer (some ⟨c, 0, none⟩))))) (V : Value) (R : World → Prop) (hS : Calls Tryz.prog 95 #[.pointer (some ⟨c, 0, none⟩), V] W fun e w => e = .returned (.bool true) ∧ R w) (hP : ∀ w, R w → Blk w p t (wayL cam key mixd obj lvl rd wd lf ly fd fx nx no ot sa ad ax (putR x lp th fk (.pointer (some ⟨c, 0, none⟩))))) (hE : ∀ w, R w → Calls Tryz.prog 96 #[.pointer (some ⟨c, 0, none⟩)] w fun e W' => e = .returned (.int .i64 0) ∧ W' = w) (hD : ∀ w, R w → Calls Tryz.prog 97 #[.pointer (some ⟨c, 0, none⟩)] w fun e W' => e = .returned (.bool true) ∧ W' = w) :
    Calls Tryz.prog 82 #[.pointer (some ⟨p, 0, none⟩), V] W fun e w => e = .returned (.tuple #[]) ∧ ∃ y, R y ∧ Chg (fun k => k = p) y w ∧ Blk w p t (wayL cam key mixd obj lvl rd wd lf ly fd fx .nilFunc no ot sa fd fx (putR x lp th fk (.pointer (some ⟨c, 0, none⟩)))) := by
  have c31 : W.cell? ⟨p, 31, none⟩ = some (.pointer (some ⟨c, 0, none⟩)) := hp.cell 31
  have HS := keepH hS
  have HP := keepH hP
  have HE := keepH hE
  have HD := keepH hD
  clear hp hS hP hE hD
  go_enter Tryz.func82, Tryz.ntmps82
  go_wp2_with fail
  refine HS.out.mono ?_
  rintro e w ⟨rfl, hr⟩
  have HR := keepH hr
  have P1 := keepH (HP.out w hr)
  have HE1 := keepH (HE.out w hr)
  have HD1 := keepH (HD.out w hr)
  clear hr HS HP HE HD c31
  have c31 : w.cell? ⟨p, 31, none⟩ = some (.pointer (some ⟨c, 0, none⟩)) := P1.out.cell 31
  go_wp2_with fail
  refine HE1.out.mono ?_
  rintro e w1 ⟨rfl, rfl⟩
  go_wp2_with fail
  refine HD1.out.mono ?_
  rintro e w2 ⟨rfl, rfl⟩
  go_wp2_with fail
  refine (tell_any P1.out).mono ?_
  rintro e w3 ⟨rfl, P3, C3⟩
  have HP3 := keepH P3
  have HC3 := keepH C3
  clear P3 C3
  go_wp2_with fail
  (try simp only [Exit.inBlock, Exit.then])
  refine bodyPost_ret (results_none rfl _ _ _) rfl ?_
  exact ⟨rfl, w2, HR.out, HC3.out, HP3.out⟩
end Go.Proofs.YtokooplfjibneaaGreat
