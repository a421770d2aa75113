/- A great region that only reads: the order of the text serves. -/
import Derived.Test.YtnhiodmigmmfgaaGreatProg
import Derived.WalkKit
import Derived.BigQuiet
import Derived.Deep.Cut
import Derived.Deep.CutBlock
import Derived.Deep.DeepCutAuto
import Derived.Test.YtnhiodmigmmfgaaGreatO2Ops
namespace Go.Proofs.YtnhiodmigmmfgaaGreat
open Go Go.RowKit
set_option maxRecDepth 100000

/-- The operations of a region of a body, by its number. -/
def opsIn (id : Nat) : Code → List Oper
  | .region i ops _ => if i = id then ops.toList else []
  | .seq a b => opsIn id a ++ opsIn id b
  | .cond _ a b => opsIn id a ++ opsIn id b
  | .block _ a => opsIn id a
  | .loop a => opsIn id a
  | .scope a => opsIn id a
  | _ => []
def lsA (k : Nat) : Array Bool := (List.replicate k true ++ List.replicate (103 - k) false).toArray
theorem lexA_step {n k : Nat} (hk : k + (n + 1) = 103) (h : ((Region.ready .any (opsIn 6 (Tryz.f46.body.getD .skip)).toArray (lsA k)).contains k && Region.free .any (opsIn 6 (Tryz.f46.body.getD .skip)).toArray (lsA k) k) = true) (h2 : Region.lexFrom .any (opsIn 6 (Tryz.f46.body.getD .skip)).toArray n (k + 1) (lsA (k + 1)) = true) : Region.lexFrom .any (opsIn 6 (Tryz.f46.body.getD .skip)).toArray (n + 1) k (lsA k) = true := by
  have e : (lsA k).setIfInBounds k true = lsA (k + 1) := by
    apply Array.ext'
    unfold lsA
    have e1 : 103 - k = (103 - (k + 1)) + 1 := by omega
    rw [e1]
    simp only [List.setIfInBounds_toArray]
    rw [List.set_append_right _ _ (by simp)]
    rw [show List.replicate (k + 1) true = List.replicate k true ++ [true] from List.replicate_succ']
    simp [List.replicate_succ]
  rw [Region.lexFrom, h, e, h2]
  rfl
theorem lexA_0 : ((Region.ready .any (opsIn 6 (Tryz.f46.body.getD .skip)).toArray (lsA 0)).contains 0 && Region.free .any (opsIn 6 (Tryz.f46.body.getD .skip)).toArray (lsA 0) 0) = true := by kernel_rfl
theorem lexA_1 : ((Region.ready .any (opsIn 6 (Tryz.f46.body.getD .skip)).toArray (lsA 1)).contains 1 && Region.free .any (opsIn 6 (Tryz.f46.body.getD .skip)).toArray (lsA 1) 1) = true := by kernel_rfl
theorem lexA_2 : ((Region.ready .any (opsIn 6 (Tryz.f46.body.getD .skip)).toArray (lsA 2)).contains 2 && Region.free .any (opsIn 6 (Tryz.f46.body.getD .skip)).toArray (lsA 2) 2) = true := by kernel_rfl
theorem lexA_3 : ((Region.ready .any (opsIn 6 (Tryz.f46.body.getD .skip)).toArray (lsA 3)).contains 3 && Region.free .any (opsIn 6 (Tryz.f46.body.getD .skip)).toArray (lsA 3) 3) = true := by kernel_rfl
theorem lexA_4 : ((Region.ready .any (opsIn 6 (Tryz.f46.body.getD .skip)).toArray (lsA 4)).contains 4 && Region.free .any (opsIn 6 (Tryz.f46.body.getD .skip)).toArray (lsA 4) 4) = true := by kernel_rfl
theorem lexA_5 : ((Region.ready .any (opsIn 6 (Tryz.f46.body.getD .skip)).toArray (lsA 5)).contains 5 && Region.free .any (opsIn 6 (Tryz.f46.body.getD .skip)).toArray (lsA 5) 5) = true := by kernel_rfl
theorem lexA_6 : ((Region.ready .any (opsIn 6 (Tryz.f46.body.getD .skip)).toArray (lsA 6)).contains 6 && Region.free .any (opsIn 6 (Tryz.f46.body.getD .skip)).toArray (lsA 6) 6) = true := by kernel_rfl
theorem lexA_7 : ((Region.ready .any (opsIn 6 (Tryz.f46.body.getD .skip)).toArray (lsA 7)).contains 7 && Region.free .any (opsIn 6 (Tryz.f46.body.getD .skip)).toArray (lsA 7) 7) = true := by kernel_rfl
theorem lexA_8 : ((Region.ready .any (opsIn 6 (Tryz.f46.body.getD .skip)).toArray (lsA 8)).contains 8 && Region.free .any (opsIn 6 (Tryz.f46.body.getD .skip)).toArray (lsA 8) 8) = true := by kernel_rfl
theorem lexA_9 : ((Region.ready .any (opsIn 6 (Tryz.f46.body.getD .skip)).toArray (lsA 9)).contains 9 && Region.free .any (opsIn 6 (Tryz.f46.body.getD .skip)).toArray (lsA 9) 9) = true := by kernel_rfl
theorem lexA_10 : ((Region.ready .any (opsIn 6 (Tryz.f46.body.getD .skip)).toArray (lsA 10)).contains 10 && Region.free .any (opsIn 6 (Tryz.f46.body.getD .skip)).toArray (lsA 10) 10) = true := by kernel_rfl
theorem lexA_11 : ((Region.ready .any (opsIn 6 (Tryz.f46.body.getD .skip)).toArray (lsA 11)).contains 11 && Region.free .any (opsIn 6 (Tryz.f46.body.getD .skip)).toArray (lsA 11) 11) = true := by kernel_rfl
theorem lexA_12 : ((Region.ready .any (opsIn 6 (Tryz.f46.body.getD .skip)).toArray (lsA 12)).contains 12 && Region.free .any (opsIn 6 (Tryz.f46.body.getD .skip)).toArray (lsA 12) 12) = true := by kernel_rfl
theorem lexA_13 : ((Region.ready .any (opsIn 6 (Tryz.f46.body.getD .skip)).toArray (lsA 13)).contains 13 && Region.free .any (opsIn 6 (Tryz.f46.body.getD .skip)).toArray (lsA 13) 13) = true := by kernel_rfl
theorem lexA_14 : ((Region.ready .any (opsIn 6 (Tryz.f46.body.getD .skip)).toArray (lsA 14)).contains 14 && Region.free .any (opsIn 6 (Tryz.f46.body.getD .skip)).toArray (lsA 14) 14) = true := by kernel_rfl
theorem lexA_15 : ((Region.ready .any (opsIn 6 (Tryz.f46.body.getD .skip)).toArray (lsA 15)).contains 15 && Region.free .any (opsIn 6 (Tryz.f46.body.getD .skip)).toArray (lsA 15) 15) = true := by kernel_rfl
theorem lexA_16 : ((Region.ready .any (opsIn 6 (Tryz.f46.body.getD .skip)).toArray (lsA 16)).contains 16 && Region.free .any (opsIn 6 (Tryz.f46.body.getD .skip)).toArray (lsA 16) 16) = true := by kernel_rfl
theorem lexA_17 : ((Region.ready .any (opsIn 6 (Tryz.f46.body.getD .skip)).toArray (lsA 17)).contains 17 && Region.free .any (opsIn 6 (Tryz.f46.body.getD .skip)).toArray (lsA 17) 17) = true := by kernel_rfl
theorem lexA_18 : ((Region.ready .any (opsIn 6 (Tryz.f46.body.getD .skip)).toArray (lsA 18)).contains 18 && Region.free .any (opsIn 6 (Tryz.f46.body.getD .skip)).toArray (lsA 18) 18) = true := by kernel_rfl
theorem lexA_19 : ((Region.ready .any (opsIn 6 (Tryz.f46.body.getD .skip)).toArray (lsA 19)).contains 19 && Region.free .any (opsIn 6 (Tryz.f46.body.getD .skip)).toArray (lsA 19) 19) = true := by kernel_rfl
theorem lexA_20 : ((Region.ready .any (opsIn 6 (Tryz.f46.body.getD .skip)).toArray (lsA 20)).contains 20 && Region.free .any (opsIn 6 (Tryz.f46.body.getD .skip)).toArray (lsA 20) 20) = true := by kernel_rfl
theorem lexA_21 : ((Region.ready .any (opsIn 6 (Tryz.f46.body.getD .skip)).toArray (lsA 21)).contains 21 && Region.free .any (opsIn 6 (Tryz.f46.body.getD .skip)).toArray (lsA 21) 21) = true := by kernel_rfl
theorem lexA_22 : ((Region.ready .any (opsIn 6 (Tryz.f46.body.getD .skip)).toArray (lsA 22)).contains 22 && Region.free .any (opsIn 6 (Tryz.f46.body.getD .skip)).toArray (lsA 22) 22) = true := by kernel_rfl
theorem lexA_23 : ((Region.ready .any (opsIn 6 (Tryz.f46.body.getD .skip)).toArray (lsA 23)).contains 23 && Region.free .any (opsIn 6 (Tryz.f46.body.getD .skip)).toArray (lsA 23) 23) = true := by kernel_rfl
theorem lexA_24 : ((Region.ready .any (opsIn 6 (Tryz.f46.body.getD .skip)).toArray (lsA 24)).contains 24 && Region.free .any (opsIn 6 (Tryz.f46.body.getD .skip)).toArray (lsA 24) 24) = true := by kernel_rfl
theorem lexA_25 : ((Region.ready .any (opsIn 6 (Tryz.f46.body.getD .skip)).toArray (lsA 25)).contains 25 && Region.free .any (opsIn 6 (Tryz.f46.body.getD .skip)).toArray (lsA 25) 25) = true := by kernel_rfl
theorem lexA_26 : ((Region.ready .any (opsIn 6 (Tryz.f46.body.getD .skip)).toArray (lsA 26)).contains 26 && Region.free .any (opsIn 6 (Tryz.f46.body.getD .skip)).toArray (lsA 26) 26) = true := by kernel_rfl
theorem lexA_27 : ((Region.ready .any (opsIn 6 (Tryz.f46.body.getD .skip)).toArray (lsA 27)).contains 27 && Region.free .any (opsIn 6 (Tryz.f46.body.getD .skip)).toArray (lsA 27) 27) = true := by kernel_rfl
theorem lexA_28 : ((Region.ready .any (opsIn 6 (Tryz.f46.body.getD .skip)).toArray (lsA 28)).contains 28 && Region.free .any (opsIn 6 (Tryz.f46.body.getD .skip)).toArray (lsA 28) 28) = true := by kernel_rfl
theorem lexA_29 : ((Region.ready .any (opsIn 6 (Tryz.f46.body.getD .skip)).toArray (lsA 29)).contains 29 && Region.free .any (opsIn 6 (Tryz.f46.body.getD .skip)).toArray (lsA 29) 29) = true := by kernel_rfl
theorem lexA_30 : ((Region.ready .any (opsIn 6 (Tryz.f46.body.getD .skip)).toArray (lsA 30)).contains 30 && Region.free .any (opsIn 6 (Tryz.f46.body.getD .skip)).toArray (lsA 30) 30) = true := by kernel_rfl
theorem lexA_31 : ((Region.ready .any (opsIn 6 (Tryz.f46.body.getD .skip)).toArray (lsA 31)).contains 31 && Region.free .any (opsIn 6 (Tryz.f46.body.getD .skip)).toArray (lsA 31) 31) = true := by kernel_rfl
theorem lexA_32 : ((Region.ready .any (opsIn 6 (Tryz.f46.body.getD .skip)).toArray (lsA 32)).contains 32 && Region.free .any (opsIn 6 (Tryz.f46.body.getD .skip)).toArray (lsA 32) 32) = true := by kernel_rfl
theorem lexA_33 : ((Region.ready .any (opsIn 6 (Tryz.f46.body.getD .skip)).toArray (lsA 33)).contains 33 && Region.free .any (opsIn 6 (Tryz.f46.body.getD .skip)).toArray (lsA 33) 33) = true := by kernel_rfl
theorem lexA_34 : ((Region.ready .any (opsIn 6 (Tryz.f46.body.getD .skip)).toArray (lsA 34)).contains 34 && Region.free .any (opsIn 6 (Tryz.f46.body.getD .skip)).toArray (lsA 34) 34) = true := by kernel_rfl
theorem lexA_35 : ((Region.ready .any (opsIn 6 (Tryz.f46.body.getD .skip)).toArray (lsA 35)).contains 35 && Region.free .any (opsIn 6 (Tryz.f46.body.getD .skip)).toArray (lsA 35) 35) = true := by kernel_rfl
theorem lexA_36 : ((Region.ready .any (opsIn 6 (Tryz.f46.body.getD .skip)).toArray (lsA 36)).contains 36 && Region.free .any (opsIn 6 (Tryz.f46.body.getD .skip)).toArray (lsA 36) 36) = true := by kernel_rfl
theorem lexA_37 : ((Region.ready .any (opsIn 6 (Tryz.f46.body.getD .skip)).toArray (lsA 37)).contains 37 && Region.free .any (opsIn 6 (Tryz.f46.body.getD .skip)).toArray (lsA 37) 37) = true := by kernel_rfl
theorem lexA_38 : ((Region.ready .any (opsIn 6 (Tryz.f46.body.getD .skip)).toArray (lsA 38)).contains 38 && Region.free .any (opsIn 6 (Tryz.f46.body.getD .skip)).toArray (lsA 38) 38) = true := by kernel_rfl
theorem lexA_39 : ((Region.ready .any (opsIn 6 (Tryz.f46.body.getD .skip)).toArray (lsA 39)).contains 39 && Region.free .any (opsIn 6 (Tryz.f46.body.getD .skip)).toArray (lsA 39) 39) = true := by kernel_rfl
theorem lexA_40 : ((Region.ready .any (opsIn 6 (Tryz.f46.body.getD .skip)).toArray (lsA 40)).contains 40 && Region.free .any (opsIn 6 (Tryz.f46.body.getD .skip)).toArray (lsA 40) 40) = true := by kernel_rfl
theorem lexA_41 : ((Region.ready .any (opsIn 6 (Tryz.f46.body.getD .skip)).toArray (lsA 41)).contains 41 && Region.free .any (opsIn 6 (Tryz.f46.body.getD .skip)).toArray (lsA 41) 41) = true := by kernel_rfl
theorem lexA_42 : ((Region.ready .any (opsIn 6 (Tryz.f46.body.getD .skip)).toArray (lsA 42)).contains 42 && Region.free .any (opsIn 6 (Tryz.f46.body.getD .skip)).toArray (lsA 42) 42) = true := by kernel_rfl
theorem lexA_43 : ((Region.ready .any (opsIn 6 (Tryz.f46.body.getD .skip)).toArray (lsA 43)).contains 43 && Region.free .any (opsIn 6 (Tryz.f46.body.getD .skip)).toArray (lsA 43) 43) = true := by kernel_rfl
theorem lexA_44 : ((Region.ready .any (opsIn 6 (Tryz.f46.body.getD .skip)).toArray (lsA 44)).contains 44 && Region.free .any (opsIn 6 (Tryz.f46.body.getD .skip)).toArray (lsA 44) 44) = true := by kernel_rfl
theorem lexA_45 : ((Region.ready .any (opsIn 6 (Tryz.f46.body.getD .skip)).toArray (lsA 45)).contains 45 && Region.free .any (opsIn 6 (Tryz.f46.body.getD .skip)).toArray (lsA 45) 45) = true := by kernel_rfl
theorem lexA_46 : ((Region.ready .any (opsIn 6 (Tryz.f46.body.getD .skip)).toArray (lsA 46)).contains 46 && Region.free .any (opsIn 6 (Tryz.f46.body.getD .skip)).toArray (lsA 46) 46) = true := by kernel_rfl
theorem lexA_47 : ((Region.ready .any (opsIn 6 (Tryz.f46.body.getD .skip)).toArray (lsA 47)).contains 47 && Region.free .any (opsIn 6 (Tryz.f46.body.getD .skip)).toArray (lsA 47) 47) = true := by kernel_rfl
theorem lexA_48 : ((Region.ready .any (opsIn 6 (Tryz.f46.body.getD .skip)).toArray (lsA 48)).contains 48 && Region.free .any (opsIn 6 (Tryz.f46.body.getD .skip)).toArray (lsA 48) 48) = true := by kernel_rfl
theorem lexA_49 : ((Region.ready .any (opsIn 6 (Tryz.f46.body.getD .skip)).toArray (lsA 49)).contains 49 && Region.free .any (opsIn 6 (Tryz.f46.body.getD .skip)).toArray (lsA 49) 49) = true := by kernel_rfl
theorem lexA_50 : ((Region.ready .any (opsIn 6 (Tryz.f46.body.getD .skip)).toArray (lsA 50)).contains 50 && Region.free .any (opsIn 6 (Tryz.f46.body.getD .skip)).toArray (lsA 50) 50) = true := by kernel_rfl
theorem lexA_51 : ((Region.ready .any (opsIn 6 (Tryz.f46.body.getD .skip)).toArray (lsA 51)).contains 51 && Region.free .any (opsIn 6 (Tryz.f46.body.getD .skip)).toArray (lsA 51) 51) = true := by kernel_rfl
theorem lexA_52 : ((Region.ready .any (opsIn 6 (Tryz.f46.body.getD .skip)).toArray (lsA 52)).contains 52 && Region.free .any (opsIn 6 (Tryz.f46.body.getD .skip)).toArray (lsA 52) 52) = true := by kernel_rfl
theorem lexA_53 : ((Region.ready .any (opsIn 6 (Tryz.f46.body.getD .skip)).toArray (lsA 53)).contains 53 && Region.free .any (opsIn 6 (Tryz.f46.body.getD .skip)).toArray (lsA 53) 53) = true := by kernel_rfl
theorem lexA_54 : ((Region.ready .any (opsIn 6 (Tryz.f46.body.getD .skip)).toArray (lsA 54)).contains 54 && Region.free .any (opsIn 6 (Tryz.f46.body.getD .skip)).toArray (lsA 54) 54) = true := by kernel_rfl
theorem lexA_55 : ((Region.ready .any (opsIn 6 (Tryz.f46.body.getD .skip)).toArray (lsA 55)).contains 55 && Region.free .any (opsIn 6 (Tryz.f46.body.getD .skip)).toArray (lsA 55) 55) = true := by kernel_rfl
theorem lexA_56 : ((Region.ready .any (opsIn 6 (Tryz.f46.body.getD .skip)).toArray (lsA 56)).contains 56 && Region.free .any (opsIn 6 (Tryz.f46.body.getD .skip)).toArray (lsA 56) 56) = true := by kernel_rfl
theorem lexA_57 : ((Region.ready .any (opsIn 6 (Tryz.f46.body.getD .skip)).toArray (lsA 57)).contains 57 && Region.free .any (opsIn 6 (Tryz.f46.body.getD .skip)).toArray (lsA 57) 57) = true := by kernel_rfl
theorem lexA_58 : ((Region.ready .any (opsIn 6 (Tryz.f46.body.getD .skip)).toArray (lsA 58)).contains 58 && Region.free .any (opsIn 6 (Tryz.f46.body.getD .skip)).toArray (lsA 58) 58) = true := by kernel_rfl
theorem lexA_59 : ((Region.ready .any (opsIn 6 (Tryz.f46.body.getD .skip)).toArray (lsA 59)).contains 59 && Region.free .any (opsIn 6 (Tryz.f46.body.getD .skip)).toArray (lsA 59) 59) = true := by kernel_rfl
theorem lexA_60 : ((Region.ready .any (opsIn 6 (Tryz.f46.body.getD .skip)).toArray (lsA 60)).contains 60 && Region.free .any (opsIn 6 (Tryz.f46.body.getD .skip)).toArray (lsA 60) 60) = true := by kernel_rfl
theorem lexA_61 : ((Region.ready .any (opsIn 6 (Tryz.f46.body.getD .skip)).toArray (lsA 61)).contains 61 && Region.free .any (opsIn 6 (Tryz.f46.body.getD .skip)).toArray (lsA 61) 61) = true := by kernel_rfl
theorem lexA_62 : ((Region.ready .any (opsIn 6 (Tryz.f46.body.getD .skip)).toArray (lsA 62)).contains 62 && Region.free .any (opsIn 6 (Tryz.f46.body.getD .skip)).toArray (lsA 62) 62) = true := by kernel_rfl
theorem lexA_63 : ((Region.ready .any (opsIn 6 (Tryz.f46.body.getD .skip)).toArray (lsA 63)).contains 63 && Region.free .any (opsIn 6 (Tryz.f46.body.getD .skip)).toArray (lsA 63) 63) = true := by kernel_rfl
theorem lexA_64 : ((Region.ready .any (opsIn 6 (Tryz.f46.body.getD .skip)).toArray (lsA 64)).contains 64 && Region.free .any (opsIn 6 (Tryz.f46.body.getD .skip)).toArray (lsA 64) 64) = true := by kernel_rfl
theorem lexA_65 : ((Region.ready .any (opsIn 6 (Tryz.f46.body.getD .skip)).toArray (lsA 65)).contains 65 && Region.free .any (opsIn 6 (Tryz.f46.body.getD .skip)).toArray (lsA 65) 65) = true := by kernel_rfl
theorem lexA_66 : ((Region.ready .any (opsIn 6 (Tryz.f46.body.getD .skip)).toArray (lsA 66)).contains 66 && Region.free .any (opsIn 6 (Tryz.f46.body.getD .skip)).toArray (lsA 66) 66) = true := by kernel_rfl
theorem lexA_67 : ((Region.ready .any (opsIn 6 (Tryz.f46.body.getD .skip)).toArray (lsA 67)).contains 67 && Region.free .any (opsIn 6 (Tryz.f46.body.getD .skip)).toArray (lsA 67) 67) = true := by kernel_rfl
theorem lexA_68 : ((Region.ready .any (opsIn 6 (Tryz.f46.body.getD .skip)).toArray (lsA 68)).contains 68 && Region.free .any (opsIn 6 (Tryz.f46.body.getD .skip)).toArray (lsA 68) 68) = true := by kernel_rfl
theorem lexA_69 : ((Region.ready .any (opsIn 6 (Tryz.f46.body.getD .skip)).toArray (lsA 69)).contains 69 && Region.free .any (opsIn 6 (Tryz.f46.body.getD .skip)).toArray (lsA 69) 69) = true := by kernel_rfl
theorem lexA_70 : ((Region.ready .any (opsIn 6 (Tryz.f46.body.getD .skip)).toArray (lsA 70)).contains 70 && Region.free .any (opsIn 6 (Tryz.f46.body.getD .skip)).toArray (lsA 70) 70) = true := by kernel_rfl
theorem lexA_71 : ((Region.ready .any (opsIn 6 (Tryz.f46.body.getD .skip)).toArray (lsA 71)).contains 71 && Region.free .any (opsIn 6 (Tryz.f46.body.getD .skip)).toArray (lsA 71) 71) = true := by kernel_rfl
theorem lexA_72 : ((Region.ready .any (opsIn 6 (Tryz.f46.body.getD .skip)).toArray (lsA 72)).contains 72 && Region.free .any (opsIn 6 (Tryz.f46.body.getD .skip)).toArray (lsA 72) 72) = true := by kernel_rfl
theorem lexA_73 : ((Region.ready .any (opsIn 6 (Tryz.f46.body.getD .skip)).toArray (lsA 73)).contains 73 && Region.free .any (opsIn 6 (Tryz.f46.body.getD .skip)).toArray (lsA 73) 73) = true := by kernel_rfl
theorem lexA_74 : ((Region.ready .any (opsIn 6 (Tryz.f46.body.getD .skip)).toArray (lsA 74)).contains 74 && Region.free .any (opsIn 6 (Tryz.f46.body.getD .skip)).toArray (lsA 74) 74) = true := by kernel_rfl
theorem lexA_75 : ((Region.ready .any (opsIn 6 (Tryz.f46.body.getD .skip)).toArray (lsA 75)).contains 75 && Region.free .any (opsIn 6 (Tryz.f46.body.getD .skip)).toArray (lsA 75) 75) = true := by kernel_rfl
theorem lexA_76 : ((Region.ready .any (opsIn 6 (Tryz.f46.body.getD .skip)).toArray (lsA 76)).contains 76 && Region.free .any (opsIn 6 (Tryz.f46.body.getD .skip)).toArray (lsA 76) 76) = true := by kernel_rfl
theorem lexA_77 : ((Region.ready .any (opsIn 6 (Tryz.f46.body.getD .skip)).toArray (lsA 77)).contains 77 && Region.free .any (opsIn 6 (Tryz.f46.body.getD .skip)).toArray (lsA 77) 77) = true := by kernel_rfl
theorem lexA_78 : ((Region.ready .any (opsIn 6 (Tryz.f46.body.getD .skip)).toArray (lsA 78)).contains 78 && Region.free .any (opsIn 6 (Tryz.f46.body.getD .skip)).toArray (lsA 78) 78) = true := by kernel_rfl
theorem lexA_79 : ((Region.ready .any (opsIn 6 (Tryz.f46.body.getD .skip)).toArray (lsA 79)).contains 79 && Region.free .any (opsIn 6 (Tryz.f46.body.getD .skip)).toArray (lsA 79) 79) = true := by kernel_rfl
theorem lexA_80 : ((Region.ready .any (opsIn 6 (Tryz.f46.body.getD .skip)).toArray (lsA 80)).contains 80 && Region.free .any (opsIn 6 (Tryz.f46.body.getD .skip)).toArray (lsA 80) 80) = true := by kernel_rfl
theorem lexA_81 : ((Region.ready .any (opsIn 6 (Tryz.f46.body.getD .skip)).toArray (lsA 81)).contains 81 && Region.free .any (opsIn 6 (Tryz.f46.body.getD .skip)).toArray (lsA 81) 81) = true := by kernel_rfl
theorem lexA_82 : ((Region.ready .any (opsIn 6 (Tryz.f46.body.getD .skip)).toArray (lsA 82)).contains 82 && Region.free .any (opsIn 6 (Tryz.f46.body.getD .skip)).toArray (lsA 82) 82) = true := by kernel_rfl
theorem lexA_83 : ((Region.ready .any (opsIn 6 (Tryz.f46.body.getD .skip)).toArray (lsA 83)).contains 83 && Region.free .any (opsIn 6 (Tryz.f46.body.getD .skip)).toArray (lsA 83) 83) = true := by kernel_rfl
theorem lexA_84 : ((Region.ready .any (opsIn 6 (Tryz.f46.body.getD .skip)).toArray (lsA 84)).contains 84 && Region.free .any (opsIn 6 (Tryz.f46.body.getD .skip)).toArray (lsA 84) 84) = true := by kernel_rfl
theorem lexA_85 : ((Region.ready .any (opsIn 6 (Tryz.f46.body.getD .skip)).toArray (lsA 85)).contains 85 && Region.free .any (opsIn 6 (Tryz.f46.body.getD .skip)).toArray (lsA 85) 85) = true := by kernel_rfl
theorem lexA_86 : ((Region.ready .any (opsIn 6 (Tryz.f46.body.getD .skip)).toArray (lsA 86)).contains 86 && Region.free .any (opsIn 6 (Tryz.f46.body.getD .skip)).toArray (lsA 86) 86) = true := by kernel_rfl
theorem lexA_87 : ((Region.ready .any (opsIn 6 (Tryz.f46.body.getD .skip)).toArray (lsA 87)).contains 87 && Region.free .any (opsIn 6 (Tryz.f46.body.getD .skip)).toArray (lsA 87) 87) = true := by kernel_rfl
theorem lexA_88 : ((Region.ready .any (opsIn 6 (Tryz.f46.body.getD .skip)).toArray (lsA 88)).contains 88 && Region.free .any (opsIn 6 (Tryz.f46.body.getD .skip)).toArray (lsA 88) 88) = true := by kernel_rfl
theorem lexA_89 : ((Region.ready .any (opsIn 6 (Tryz.f46.body.getD .skip)).toArray (lsA 89)).contains 89 && Region.free .any (opsIn 6 (Tryz.f46.body.getD .skip)).toArray (lsA 89) 89) = true := by kernel_rfl
theorem lexA_90 : ((Region.ready .any (opsIn 6 (Tryz.f46.body.getD .skip)).toArray (lsA 90)).contains 90 && Region.free .any (opsIn 6 (Tryz.f46.body.getD .skip)).toArray (lsA 90) 90) = true := by kernel_rfl
theorem lexA_91 : ((Region.ready .any (opsIn 6 (Tryz.f46.body.getD .skip)).toArray (lsA 91)).contains 91 && Region.free .any (opsIn 6 (Tryz.f46.body.getD .skip)).toArray (lsA 91) 91) = true := by kernel_rfl
theorem lexA_92 : ((Region.ready .any (opsIn 6 (Tryz.f46.body.getD .skip)).toArray (lsA 92)).contains 92 && Region.free .any (opsIn 6 (Tryz.f46.body.getD .skip)).toArray (lsA 92) 92) = true := by kernel_rfl
theorem lexA_93 : ((Region.ready .any (opsIn 6 (Tryz.f46.body.getD .skip)).toArray (lsA 93)).contains 93 && Region.free .any (opsIn 6 (Tryz.f46.body.getD .skip)).toArray (lsA 93) 93) = true := by kernel_rfl
theorem lexA_94 : ((Region.ready .any (opsIn 6 (Tryz.f46.body.getD .skip)).toArray (lsA 94)).contains 94 && Region.free .any (opsIn 6 (Tryz.f46.body.getD .skip)).toArray (lsA 94) 94) = true := by kernel_rfl
theorem lexA_95 : ((Region.ready .any (opsIn 6 (Tryz.f46.body.getD .skip)).toArray (lsA 95)).contains 95 && Region.free .any (opsIn 6 (Tryz.f46.body.getD .skip)).toArray (lsA 95) 95) = true := by kernel_rfl
theorem lexA_96 : ((Region.ready .any (opsIn 6 (Tryz.f46.body.getD .skip)).toArray (lsA 96)).contains 96 && Region.free .any (opsIn 6 (Tryz.f46.body.getD .skip)).toArray (lsA 96) 96) = true := by kernel_rfl
theorem lexA_97 : ((Region.ready .any (opsIn 6 (Tryz.f46.body.getD .skip)).toArray (lsA 97)).contains 97 && Region.free .any (opsIn 6 (Tryz.f46.body.getD .skip)).toArray (lsA 97) 97) = true := by kernel_rfl
theorem lexA_98 : ((Region.ready .any (opsIn 6 (Tryz.f46.body.getD .skip)).toArray (lsA 98)).contains 98 && Region.free .any (opsIn 6 (Tryz.f46.body.getD .skip)).toArray (lsA 98) 98) = true := by kernel_rfl
theorem lexA_99 : ((Region.ready .any (opsIn 6 (Tryz.f46.body.getD .skip)).toArray (lsA 99)).contains 99 && Region.free .any (opsIn 6 (Tryz.f46.body.getD .skip)).toArray (lsA 99) 99) = true := by kernel_rfl
theorem lexA_100 : ((Region.ready .any (opsIn 6 (Tryz.f46.body.getD .skip)).toArray (lsA 100)).contains 100 && Region.free .any (opsIn 6 (Tryz.f46.body.getD .skip)).toArray (lsA 100) 100) = true := by kernel_rfl
theorem lexA_101 : ((Region.ready .any (opsIn 6 (Tryz.f46.body.getD .skip)).toArray (lsA 101)).contains 101 && Region.free .any (opsIn 6 (Tryz.f46.body.getD .skip)).toArray (lsA 101) 101) = true := by kernel_rfl
theorem lexA_102 : ((Region.ready .any (opsIn 6 (Tryz.f46.body.getD .skip)).toArray (lsA 102)).contains 102 && Region.free .any (opsIn 6 (Tryz.f46.body.getD .skip)).toArray (lsA 102) 102) = true := by kernel_rfl
theorem lexA_end : Region.lexFrom .any (opsIn 6 (Tryz.f46.body.getD .skip)).toArray 0 103 (lsA 103) = true := by kernel_rfl
theorem lexA : Region.lexB .any (opsIn 6 (Tryz.f46.body.getD .skip)).toArray = true := by
  have h0 : Region.noSelect (opsIn 6 (Tryz.f46.body.getD .skip)).toArray = true := by kernel_rfl
  have h := lexA_end
  replace h := lexA_step (n := 0) (k := 102) (by rfl) lexA_102 h
  replace h := lexA_step (n := 1) (k := 101) (by rfl) lexA_101 h
  replace h := lexA_step (n := 2) (k := 100) (by rfl) lexA_100 h
  replace h := lexA_step (n := 3) (k := 99) (by rfl) lexA_99 h
  replace h := lexA_step (n := 4) (k := 98) (by rfl) lexA_98 h
  replace h := lexA_step (n := 5) (k := 97) (by rfl) lexA_97 h
  replace h := lexA_step (n := 6) (k := 96) (by rfl) lexA_96 h
  replace h := lexA_step (n := 7) (k := 95) (by rfl) lexA_95 h
  replace h := lexA_step (n := 8) (k := 94) (by rfl) lexA_94 h
  replace h := lexA_step (n := 9) (k := 93) (by rfl) lexA_93 h
  replace h := lexA_step (n := 10) (k := 92) (by rfl) lexA_92 h
  replace h := lexA_step (n := 11) (k := 91) (by rfl) lexA_91 h
  replace h := lexA_step (n := 12) (k := 90) (by rfl) lexA_90 h
  replace h := lexA_step (n := 13) (k := 89) (by rfl) lexA_89 h
  replace h := lexA_step (n := 14) (k := 88) (by rfl) lexA_88 h
  replace h := lexA_step (n := 15) (k := 87) (by rfl) lexA_87 h
  replace h := lexA_step (n := 16) (k := 86) (by rfl) lexA_86 h
  replace h := lexA_step (n := 17) (k := 85) (by rfl) lexA_85 h
  replace h := lexA_step (n := 18) (k := 84) (by rfl) lexA_84 h
  replace h := lexA_step (n := 19) (k := 83) (by rfl) lexA_83 h
  replace h := lexA_step (n := 20) (k := 82) (by rfl) lexA_82 h
  replace h := lexA_step (n := 21) (k := 81) (by rfl) lexA_81 h
  replace h := lexA_step (n := 22) (k := 80) (by rfl) lexA_80 h
  replace h := lexA_step (n := 23) (k := 79) (by rfl) lexA_79 h
  replace h := lexA_step (n := 24) (k := 78) (by rfl) lexA_78 h
  replace h := lexA_step (n := 25) (k := 77) (by rfl) lexA_77 h
  replace h := lexA_step (n := 26) (k := 76) (by rfl) lexA_76 h
  replace h := lexA_step (n := 27) (k := 75) (by rfl) lexA_75 h
  replace h := lexA_step (n := 28) (k := 74) (by rfl) lexA_74 h
  replace h := lexA_step (n := 29) (k := 73) (by rfl) lexA_73 h
  replace h := lexA_step (n := 30) (k := 72) (by rfl) lexA_72 h
  replace h := lexA_step (n := 31) (k := 71) (by rfl) lexA_71 h
  replace h := lexA_step (n := 32) (k := 70) (by rfl) lexA_70 h
  replace h := lexA_step (n := 33) (k := 69) (by rfl) lexA_69 h
  replace h := lexA_step (n := 34) (k := 68) (by rfl) lexA_68 h
  replace h := lexA_step (n := 35) (k := 67) (by rfl) lexA_67 h
  replace h := lexA_step (n := 36) (k := 66) (by rfl) lexA_66 h
  replace h := lexA_step (n := 37) (k := 65) (by rfl) lexA_65 h
  replace h := lexA_step (n := 38) (k := 64) (by rfl) lexA_64 h
  replace h := lexA_step (n := 39) (k := 63) (by rfl) lexA_63 h
  replace h := lexA_step (n := 40) (k := 62) (by rfl) lexA_62 h
  replace h := lexA_step (n := 41) (k := 61) (by rfl) lexA_61 h
  replace h := lexA_step (n := 42) (k := 60) (by rfl) lexA_60 h
  replace h := lexA_step (n := 43) (k := 59) (by rfl) lexA_59 h
  replace h := lexA_step (n := 44) (k := 58) (by rfl) lexA_58 h
  replace h := lexA_step (n := 45) (k := 57) (by rfl) lexA_57 h
  replace h := lexA_step (n := 46) (k := 56) (by rfl) lexA_56 h
  replace h := lexA_step (n := 47) (k := 55) (by rfl) lexA_55 h
  replace h := lexA_step (n := 48) (k := 54) (by rfl) lexA_54 h
  replace h := lexA_step (n := 49) (k := 53) (by rfl) lexA_53 h
  replace h := lexA_step (n := 50) (k := 52) (by rfl) lexA_52 h
  replace h := lexA_step (n := 51) (k := 51) (by rfl) lexA_51 h
  replace h := lexA_step (n := 52) (k := 50) (by rfl) lexA_50 h
  replace h := lexA_step (n := 53) (k := 49) (by rfl) lexA_49 h
  replace h := lexA_step (n := 54) (k := 48) (by rfl) lexA_48 h
  replace h := lexA_step (n := 55) (k := 47) (by rfl) lexA_47 h
  replace h := lexA_step (n := 56) (k := 46) (by rfl) lexA_46 h
  replace h := lexA_step (n := 57) (k := 45) (by rfl) lexA_45 h
  replace h := lexA_step (n := 58) (k := 44) (by rfl) lexA_44 h
  replace h := lexA_step (n := 59) (k := 43) (by rfl) lexA_43 h
  replace h := lexA_step (n := 60) (k := 42) (by rfl) lexA_42 h
  replace h := lexA_step (n := 61) (k := 41) (by rfl) lexA_41 h
  replace h := lexA_step (n := 62) (k := 40) (by rfl) lexA_40 h
  replace h := lexA_step (n := 63) (k := 39) (by rfl) lexA_39 h
  replace h := lexA_step (n := 64) (k := 38) (by rfl) lexA_38 h
  replace h := lexA_step (n := 65) (k := 37) (by rfl) lexA_37 h
  replace h := lexA_step (n := 66) (k := 36) (by rfl) lexA_36 h
  replace h := lexA_step (n := 67) (k := 35) (by rfl) lexA_35 h
  replace h := lexA_step (n := 68) (k := 34) (by rfl) lexA_34 h
  replace h := lexA_step (n := 69) (k := 33) (by rfl) lexA_33 h
  replace h := lexA_step (n := 70) (k := 32) (by rfl) lexA_32 h
  replace h := lexA_step (n := 71) (k := 31) (by rfl) lexA_31 h
  replace h := lexA_step (n := 72) (k := 30) (by rfl) lexA_30 h
  replace h := lexA_step (n := 73) (k := 29) (by rfl) lexA_29 h
  replace h := lexA_step (n := 74) (k := 28) (by rfl) lexA_28 h
  replace h := lexA_step (n := 75) (k := 27) (by rfl) lexA_27 h
  replace h := lexA_step (n := 76) (k := 26) (by rfl) lexA_26 h
  replace h := lexA_step (n := 77) (k := 25) (by rfl) lexA_25 h
  replace h := lexA_step (n := 78) (k := 24) (by rfl) lexA_24 h
  replace h := lexA_step (n := 79) (k := 23) (by rfl) lexA_23 h
  replace h := lexA_step (n := 80) (k := 22) (by rfl) lexA_22 h
  replace h := lexA_step (n := 81) (k := 21) (by rfl) lexA_21 h
  replace h := lexA_step (n := 82) (k := 20) (by rfl) lexA_20 h
  replace h := lexA_step (n := 83) (k := 19) (by rfl) lexA_19 h
  replace h := lexA_step (n := 84) (k := 18) (by rfl) lexA_18 h
  replace h := lexA_step (n := 85) (k := 17) (by rfl) lexA_17 h
  replace h := lexA_step (n := 86) (k := 16) (by rfl) lexA_16 h
  replace h := lexA_step (n := 87) (k := 15) (by rfl) lexA_15 h
  replace h := lexA_step (n := 88) (k := 14) (by rfl) lexA_14 h
  replace h := lexA_step (n := 89) (k := 13) (by rfl) lexA_13 h
  replace h := lexA_step (n := 90) (k := 12) (by rfl) lexA_12 h
  replace h := lexA_step (n := 91) (k := 11) (by rfl) lexA_11 h
  replace h := lexA_step (n := 92) (k := 10) (by rfl) lexA_10 h
  replace h := lexA_step (n := 93) (k := 9) (by rfl) lexA_9 h
  replace h := lexA_step (n := 94) (k := 8) (by rfl) lexA_8 h
  replace h := lexA_step (n := 95) (k := 7) (by rfl) lexA_7 h
  replace h := lexA_step (n := 96) (k := 6) (by rfl) lexA_6 h
  replace h := lexA_step (n := 97) (k := 5) (by rfl) lexA_5 h
  replace h := lexA_step (n := 98) (k := 4) (by rfl) lexA_4 h
  replace h := lexA_step (n := 99) (k := 3) (by rfl) lexA_3 h
  replace h := lexA_step (n := 100) (k := 2) (by rfl) lexA_2 h
  replace h := lexA_step (n := 101) (k := 1) (by rfl) lexA_1 h
  replace h := lexA_step (n := 102) (k := 0) (by rfl) lexA_0 h
  have es : (opsIn 6 (Tryz.f46.body.getD .skip)).toArray.size = 103 := by kernel_rfl
  have el : Array.replicate 103 false = lsA 0 := by kernel_rfl
  rw [Region.lexB, es, el, h0, h]
  rfl
end Go.Proofs.YtnhiodmigmmfgaaGreat
/- The document's memory (shutterref03), plain: what it holds, and what its accesses do. -/
namespace Go.Proofs.YtnhiodmigmmfgaaGreat
open Go.RowKit Go.Shelf

def Own (os cs : List Nat) (n : Nat) : Prop := os.length = n ∧ (∀ i, i < n → cellN os i = cellN cs i) ∧ ∀ i, n ≤ i → cellN cs i = 0
def IsOwn (W : World) (g : Nat) (os : List Nat) : Prop := W.heap[g]? = some (.cells (os.map u64V).toArray 75 (0, 0))
theorem IsOwn.set {W : World} {g : Nat} {os : List Nat} (h : IsOwn W g os) (i v : Nat) : IsOwn (W.setCell ⟨g, i, none⟩ (.int .u64 (v : Int))) g (os.set i v) := by
  have e := set_of h i (.int .u64 (v : Int))
  rw [IsOwn, e, List.map_set]
  simp [u64V]
theorem IsOwn.cell {W : World} {g : Nat} {os : List Nat} (h : IsOwn W g os) (i : Nat) (hi : i < os.length) : W.cell? ⟨g, i, none⟩ = some (.int .u64 (cellN os i : Int)) := by
  rw [cell_of h i]
  simp [cellN, u64V, List.getElem?_eq_getElem hi]
theorem cellN_set (os : List Nat) (i v j : Nat) (hi : i < os.length) : cellN (os.set i v) j = if j = i then v else cellN os j := by
  simp only [cellN, List.getD_eq_getElem?_getD, List.getElem?_set]
  by_cases e : i = j
  · subst e
    simp [hi]
  · rw [if_neg e, if_neg (fun x => e x.symm)]
theorem Own.set {os cs : List Nat} {n i v : Nat} (h : Own os cs n) (hi : i < n) : Own (os.set i v) (stN n cs i v) n := by
  refine ⟨by simp [h.1], fun j hj => ?_, fun j hj => ?_⟩
  · rw [cellN_set _ _ _ _ (by rw [h.1]; exact hi), stN_cell]
    simp [hi, h.2.1 j hj]
  · rw [stN_cell, if_neg (by omega)]
    exact h.2.2 j hj
theorem own_zero (n : Nat) : Own (List.replicate n 0) [] n := by
  refine ⟨by simp, fun i hi => ?_, fun i hi => by simp [cellN]⟩
  simp only [cellN, List.getD_eq_getElem?_getD, List.getElem?_replicate]
  split <;> simp
theorem infoU64m : (Tryz.prog.info? 75).map (fun i => (i.zero, i.size, i.bytes)) = some (some (.int .u64 0), 1, 8) := by kernel_rfl
theorem make_u64s (n : Nat) (hn : n ≤ 4194304) (u : World) : ∃ w, (Instr.makeSlice 110 (.int .i64 (n : Int)) (.int .i64 (n : Int))).run Tryz.prog u = .ok (.slice (some ⟨u.heap.size, 0, none⟩) n n) w ∧ IsOwn w u.heap.size (List.replicate n 0) ∧ Chg (fun _ => False) u w ∧ w.heap.size = u.heap.size + 1 := by
  obtain ⟨i0, hi, hz0, hz1, hz2⟩ := info_parts infoU64m
  have h := run_make (P := Tryz.prog) u 110 75 i0 (.int .u64 0) Tryz.underlying110 hi hz0 .i64 .i64 (n : Int) (n : Int) (by omega) (Int.le_refl _) (by rw [hz2]; omega) (by omega)
  refine ⟨u.alloc (.cells (madeCells #[Value.int .u64 0] n) 75), by simpa [hz1, Value.cells] using h, ?_, (Chg.refl _ _).alloc _, by simp⟩
  have e : madeCells #[Value.int .u64 0] n = ((List.replicate n 0).map u64V).toArray := by
    apply Array.ext'
    rw [toList_madeCells_one]
    simp [u64V]
  unfold IsOwn
  rw [e]
  exact heap_alloc_new _ _

def rmCells (nc n next : Nat) (av : Value) : Array Value := #[.slice (some ⟨nc, 0, none⟩) n n, .int .i64 (next : Int), av, .bool false]
structure RMemAt (W : World) (R : Nat → Prop) (nm nc : Nat) (av : Value) (n next : Nat) (os cs : List Nat) (l : List Acc) : Prop where
  blk : W.heap[nm]? = some (.cells (rmCells nc n next av) 115 (0, 0))
  own : IsOwn W nc os
  os : Own os cs n
  acc : W.ownsRow 0 144 8 av l.length (accRow l)
  vals : ∀ x ∈ l, W.ownsRow 0 75 1 x.vs x.vals.length (x.vals.map u64V)
  inn : R nm
  inc : R nc
  ina : ∀ k, av.ownBlock = some k → R k
  inv : ∀ x ∈ l, ∀ k, x.vs.ownBlock = some k → R k
  ne : ∀ x ∈ l, x.vs.ownBlock ≠ some nc
  lt : ∀ k, R k → k < W.heap.size
  nn : 128 ≤ n ∧ n ≤ 4194304
  small : ∀ i, cellN cs i < 18446744073709551616
def RMem (W : World) (R : Nat → Prop) (nm n next : Nat) (cs : List Nat) (l : List Acc) : Prop := ∃ nc av os, RMemAt W R nm nc av n next os cs l
theorem RMemAt.kept {W W' : World} {R : Nat → Prop} {nm nc n next : Nat} {av : Value} {os cs : List Nat} {l : List Acc} (h : RMemAt W R nm nc av n next os cs l) (hs : W.heap.size ≤ W'.heap.size) (hk : ∀ k, R k → W'.heap[k]? = W.heap[k]?) : RMemAt W' R nm nc av n next os cs l :=
  ⟨(hk nm h.inn).trans h.blk, (hk nc h.inc).trans h.own, h.os, row_kept h.acc fun k e => hk k (h.ina k e), fun x hx => row_kept (h.vals x hx) fun k e => hk k (h.inv x hx k e), h.inn, h.inc, h.ina, h.inv, h.ne, fun k e => Nat.lt_of_lt_of_le (h.lt k e) hs, h.nn, h.small⟩
theorem RMem.chg {W W' : World} {R G : Nat → Prop} {nm n next : Nat} {cs : List Nat} {l : List Acc} (h : RMem W R nm n next cs l) (hc : Chg G W W') (hd : ∀ k, R k → ¬ G k) : RMem W' R nm n next cs l := by
  obtain ⟨nc, av, os, h⟩ := h
  exact ⟨nc, av, os, h.kept hc.size fun k e => hc.block k (h.lt k e) (hd k e)⟩
theorem RMem.lt {W : World} {R : Nat → Prop} {nm n next : Nat} {cs : List Nat} {l : List Acc} (h : RMem W R nm n next cs l) (k : Nat) (hk : R k) : k < W.heap.size := by
  obtain ⟨nc, av, os, h⟩ := h
  exact h.lt k hk
theorem RMem.inn {W : World} {R : Nat → Prop} {nm n next : Nat} {cs : List Nat} {l : List Acc} (h : RMem W R nm n next cs l) : R nm := by
  obtain ⟨nc, av, os, h⟩ := h
  exact h.inn
theorem Bank.lt {W : World} {F : Nat → Prop} {b most next : Nat} {cs : List Nat} {l : List Acc} (h : Bank W F b most next cs l) (k : Nat) (hk : F k) : k < W.heap.size := by
  obtain ⟨cv, av, h⟩ := h
  exact h.lt k hk

theorem rnote_end {W w2 w3 : World} {R : Nat → Prop} {nm nc n next g' c3 : Nat} {av : Value} {os cs : List Nat} {l : List Acc} {th : Int} {kind addr x y got : Nat} {ok : Bool}
    (h : RMemAt W R nm nc av n next os cs l) (hk2 : ∀ k, k < W.heap.size → w2.heap[k]? = W.heap[k]?) (hc2 : Chg R W w2) (hg : w2.grownBy w3 av.ownBlock)
    (hb3 : w3.heap[nm]? = some (.cells (rmCells nc n next av) 115 (0, 0)))
    (ho : w3.ownsRow 0 144 8 (.slice (some ⟨g', 0, none⟩) (l.length + 1) c3) (l.length + 1) (accRow l ++ [.int .i64 th, .int .u8 (kind : Int), .int .u64 (addr : Int), .int .u64 (x : Int), .int .u64 (y : Int), .slice none 0 0, .int .u64 (got : Int), .bool ok]))
    (hw2 : av.ownBlock = some g' ∨ W.heap.size ≤ g') :
    ∃ R', RMem (w3.setCell ⟨nm, 2, none⟩ (.slice (some ⟨g', 0, none⟩) (l.length + 1) c3)) R' nm n next cs (l ++ [⟨th, kind, addr, x, y, .slice none 0 0, [], got, ok⟩]) ∧ Goes W (w3.setCell ⟨nm, 2, none⟩ (.slice (some ⟨g', 0, none⟩) (l.length + 1) c3)) R R' := by
  have gb : g' ≠ nm := fun e => block_apart ho hb3 (by decide) (by rw [e]; rfl)
  have szW := hc2.size
  have sz3 := hg.size
  have hsz : (w3.setCell ⟨nm, 2, none⟩ (.slice (some ⟨g', 0, none⟩) (l.length + 1) c3)).heap.size = w3.heap.size := by simp [World.setCell]
  have k3 : ∀ k, k < W.heap.size → k ≠ nm → av.ownBlock ≠ some k → (w3.setCell ⟨nm, 2, none⟩ (.slice (some ⟨g', 0, none⟩) (l.length + 1) c3)).heap[k]? = W.heap[k]? := fun k hk h1 h2 =>
    (Below.heap_setCell _ _ _ _ h1).trans ((hg.block k (by omega) (fun e => h2 e.symm)).trans (hk2 k hk))
  refine ⟨fun k => R k ∨ k = g', ⟨nc, .slice (some ⟨g', 0, none⟩) (l.length + 1) c3, os, ?_, ?_, h.os, ?_, ?_, .inl h.inn, .inl h.inc, ?_, ?_, ?_, ?_, h.nn, h.small⟩, ⟨?_, ?_⟩⟩
  · exact set_of hb3 2 _
  · refine (k3 nc (h.lt nc h.inc) (fun e => ?_) (fun e => block_apart h.acc h.own (by decide) e)).trans h.own
    have e1 := h.own
    rw [IsOwn, e, h.blk] at e1
    simp at e1
  · have r := row_kept (W' := w3.setCell ⟨nm, 2, none⟩ (.slice (some ⟨g', 0, none⟩) (l.length + 1) c3)) ho fun k e => Below.heap_setCell _ _ _ _ (by simp [Value.ownBlock] at e; rw [← e]; exact gb)
    simpa [accRow, Acc.cells] using r
  · intro z hz
    rcases List.mem_append.1 hz with hz | hz
    · exact row_kept (h.vals z hz) fun k e => k3 k (h.lt k (h.inv z hz k e)) (fun e2 => block_apart (h.vals z hz) h.blk (by decide) (by rw [e, e2])) (fun e2 => rows_apart (h.vals z hz) h.acc (by decide) k e e2)
    · obtain rfl := List.mem_singleton.1 hz
      exact World.ownsRow_nil _ _ _ _
  · intro k e
    simp [Value.ownBlock] at e
    exact .inr e.symm
  · intro z hz k e
    rcases List.mem_append.1 hz with hz | hz
    · exact .inl (h.inv z hz k e)
    · obtain rfl := List.mem_singleton.1 hz
      simp [Value.ownBlock] at e
  · intro z hz e
    rcases List.mem_append.1 hz with hz | hz
    · exact h.ne z hz e
    · obtain rfl := List.mem_singleton.1 hz
      simp [Value.ownBlock] at e
  · rw [hsz]
    rintro k (hk | rfl)
    · have := h.lt k hk
      omega
    · exact row_lt ho k rfl
  · exact ((hc2.grown hg (fun k e _ => h.ina k e))).setCell (fun _ => h.inn) _
  · rintro k (hk | rfl)
    · exact .inl hk
    · rcases hw2 with e | e
      · exact .inl (h.ina k e)
      · exact .inr e

set_option maxRecDepth 100000 in
theorem r_note (nm n next : Nat) (th : Int) (kind addr x y got : Nat) (ok : Bool) (R : Nat → Prop) (cs : List Nat) (l : List Acc) (W : World) (h : RMem W R nm n next cs l) (hl : l.length < 1099511627776) :
    Calls Tryz.prog 80 #[.pointer (some ⟨nm, 0, none⟩), accV th kind addr x y (.slice none 0 0) got ok] W fun e W' => e = .returned (.tuple #[]) ∧ ∃ R', RMem W' R' nm n next cs (l ++ [⟨th, kind, addr, x, y, .slice none 0 0, [], got, ok⟩]) ∧ Goes W W' R R' := by
  obtain ⟨i0, hi, hz0, hz1, hz2⟩ := info_parts infoA
  unfold accV
  obtain ⟨nc, av, os, h⟩ := h
  have hbl := lt_of h.blk
  obtain ⟨pa, ca, rfl⟩ := slice_of h.acc
  obtain ⟨w1, hw1⟩ : ∃ w1, w1 = W.alloc (.cells #[.int .i64 th, .int .u8 (kind : Int), .int .u64 (addr : Int), .int .u64 (x : Int), .int .u64 (y : Int), .slice none 0 0, .int .u64 (got : Int), .bool ok] 144) := ⟨_, rfl⟩
  have hB1 : Hid (w1.heap[W.heap.size]? = some (.cells #[.int .i64 th, .int .u8 (kind : Int), .int .u64 (addr : Int), .int .u64 (x : Int), .int .u64 (y : Int), .slice none 0 0, .int .u64 (got : Int), .bool ok] 144 (0, 0))) := by rw [hw1]; exact heap_alloc_new _ _
  have hk1 : Hid (∀ k, k < W.heap.size → w1.heap[k]? = W.heap[k]?) := fun k hk => by rw [hw1]; exact Below.heap_alloc _ _ _ hk
  have hs1 : w1.heap.size = W.heap.size + 1 := by rw [hw1]; simp
  have hC1 : Hid (Chg R W w1) := by rw [hw1]; exact (Chg.refl R W).alloc _
  have hb1 : Hid (w1.heap[nm]? = some (.cells (rmCells nc n next (.slice pa l.length ca)) 115 (0, 0))) := (hk1.out nm hbl).trans h.blk
  have HA : Hid (w1.drew.ownsRow 0 144 8 (.slice pa l.length ca) l.length (accRow l)) := row_kept (W := W) h.acc fun k e => (hk1.out k (row_lt h.acc k e))
  have q0 := (cell_of hB1.out 0).trans rfl
  have q1 := (cell_of hB1.out 1).trans rfl
  have q2 := (cell_of hB1.out 2).trans rfl
  have q3 := (cell_of hB1.out 3).trans rfl
  have q4 := (cell_of hB1.out 4).trans rfl
  have q5 := (cell_of hB1.out 5).trans rfl
  have q6 := (cell_of hB1.out 6).trans rfl
  have q7 := (cell_of hB1.out 7).trans rfl
  have r2 : w1.cell? ⟨nm, 2, none⟩ = some (.slice pa l.length ca) := cell_of hb1.out 2
  have r3 : w1.cell? ⟨nm, 3, none⟩ = some (.bool false) := cell_of hb1.out 3
  have H := keepH h
  have ne1 : ¬ nm = w1.heap.size := by omega
  have qa : ∀ o, (w1.alloc o).cell? ⟨nm, 2, none⟩ = some (.slice pa l.length ca) := fun o => cell_of (alloc_of hb1.out o) 2
  have HS1 := keepH hs1
  have HW1 := keepH hw1
  clear h hs1 hw1
  go_enter Tryz.func80, Tryz.ntmps80
  go_upto_region 1 with fail
  rw [← HW1.out]
  clear HW1
  go_wp2_with fail
  go_region_law (refine step_append_own rfl (.tmp 13) (.tmp 15) 113 rfl 144 i0 (accV 0 0 0 0 0 (.slice none 0 0) 0 false) 8 80 Tryz.underlying113 hi hz0 hz1 hz2 rfl (by decide) (.slice pa l.length ca) l.length (accRow l) rfl (HA.out.alloc _) ⟨w1.heap.size, 0, none⟩ 1 1 [.int .i64 th, .int .u8 (kind : Int), .int .u64 (addr : Int), .int .u64 (x : Int), .int .u64 (y : Int), .slice none 0 0, .int .u64 (got : Int), .bool ok] rfl rfl (cells_new _ _ rfl _ _) (by simp [Value.oneCell']) (by unfold maxLen; omega) (by omega) ?_; intro v' w3 hown3 hgr3 _ hwh3; obtain ⟨g', c3, rfl⟩ := slice_pos hown3 (Nat.succ_pos _); have hb3 : Hid (w3.heap[nm]? = some (.cells (rmCells nc n next (.slice pa l.length ca)) 115 (0, 0))) := (hgr3.block nm (by have := lt_of hb1.out; simp; omega) (fun e => block_apart H.out.acc H.out.blk (by decide) e.symm)).trans (alloc_of (W := w1.drew) hb1.out _); have r8 : w3.cell? ⟨nm, 2, none⟩ = some (.slice pa l.length ca) := cell_of hb3.out 2; have rf := free_of hb3.out 2; have HO := keepH hown3; have HW3 := keepH hwh3; have HG3 := keepH hgr3; clear hown3 hwh3 hgr3)
  all_goals (go_wp2_with fail)
  all_goals go_end0
  all_goals (refine ⟨rfl, rnote_end H.out (fun k hk => ?_) ?_ HG3.out hb3.out HO.out ?_⟩)
  all_goals first
    | exact (Below.heap_alloc w1.drew _ _ (by have := HS1.out; show _ < w1.heap.size; omega)).trans (hk1.out k hk)
    | exact hC1.out.drew.alloc _
    | (rcases HW3.out with e2 | e2
       · exact .inl e2.symm
       · simp [Value.ownBlock] at e2; exact .inr (by have := HS1.out; omega))
end Go.Proofs.YtnhiodmigmmfgaaGreat
/- The document's memory: Peek, Load, Store, Cas, New. -/
namespace Go.Proofs.YtnhiodmigmmfgaaGreat
open Go.RowKit Go.Shelf
set_option linter.unusedVariables false

theorem RMemAt.put {W : World} {R : Nat → Prop} {nm nc n next : Nat} {av : Value} {os cs : List Nat} {l : List Acc} (h : RMemAt W R nm nc av n next os cs l) (i v : Nat) (hi : i < n) (hv : v < 18446744073709551616) : RMemAt (W.setCell ⟨nc, i, none⟩ (.int .u64 (v : Int))) R nm nc av n next (os.set i v) (stN n cs i v) l ∧ Goes W (W.setCell ⟨nc, i, none⟩ (.int .u64 (v : Int))) R R := by
  have ne : nm ≠ nc := fun e => by
    have e1 := h.own
    rw [IsOwn, ← e, h.blk] at e1
    simp at e1
  refine ⟨⟨other_of h.blk ne _, h.own.set i v, h.os.set hi, row_kept h.acc fun k e => Below.heap_setCell _ _ _ _ (fun e2 => block_apart h.acc h.own (by decide) (by rw [e, e2])), fun x hx => row_kept (h.vals x hx) fun k e => Below.heap_setCell _ _ _ _ (fun e2 => h.ne x hx (by rw [e, e2])), h.inn, h.inc, h.ina, h.inv, h.ne, fun k e => by have := h.lt k e; simpa [World.setCell] using this, h.nn, fun j => ?_⟩, ⟨(Chg.refl R W).setCell (p := ⟨nc, i, none⟩) (fun _ => h.inc) _, fun k e => .inl e⟩⟩
  rw [stN_cell]
  split
  · exact hv
  · exact h.small j

theorem RMemAt.out {W : World} {R : Nat → Prop} {nm nc n next : Nat} {av : Value} {os cs : List Nat} {l : List Acc} (h : RMemAt W R nm nc av n next os cs l) (i : Nat) (hi : n ≤ i) : cellN cs i = 0 := h.os.2.2 i hi

set_option maxRecDepth 100000 in
theorem r_peek (nm n next addr : Nat) (R : Nat → Prop) (cs : List Nat) (l : List Acc) (W : World) (h : RMem W R nm n next cs l) (ha : addr < 18446744073709551616) :
    Calls Tryz.prog 89 #[.pointer (some ⟨nm, 0, none⟩), .int .u64 (addr : Int)] W fun e W' => e = .returned (.int .u64 (cellN cs addr : Int)) ∧ W' = W := by
  obtain ⟨nc, av, os, h⟩ := h
  have c0 : W.cell? ⟨nm, 0, none⟩ = some (.slice (some ⟨nc, 0, none⟩) n n) := cell_of h.blk 0
  have nn := h.nn
  have wn : IntKind.u64.wrap (n : Int) = (n : Int) := u64_lt (by omega)
  by_cases hi : addr < n
  · have t1 : (addr : Int) < (n : Int) := by omega
    have cx := h.own.cell addr (by rw [h.os.1]; exact hi)
    rw [h.os.2.1 _ hi] at cx
    clear h
    go_enter Tryz.func89, Tryz.ntmps89
    go_wp2_with fail
    go_ret
    exact ⟨by simp, rfl⟩
  · have t1 : ¬ (addr : Int) < (n : Int) := by omega
    have e0 := h.out addr (by omega)
    clear h
    go_enter Tryz.func89, Tryz.ntmps89
    go_wp2_with fail
    go_ret
    exact ⟨by simp, rfl⟩

set_option maxRecDepth 100000 in
theorem r_set (nm n next addr v : Nat) (R : Nat → Prop) (cs : List Nat) (l : List Acc) (W : World) (h : RMem W R nm n next cs l) (ha : addr < 18446744073709551616) (hv : v < 18446744073709551616) :
    Calls Tryz.prog 79 #[.pointer (some ⟨nm, 0, none⟩), .int .u64 (addr : Int), .int .u64 (v : Int)] W fun e W' => e = .returned (.tuple #[]) ∧ RMem W' R nm n next (stN n cs addr v) l ∧ Goes W W' R R := by
  obtain ⟨nc, av, os, h⟩ := h
  have c0 : W.cell? ⟨nm, 0, none⟩ = some (.slice (some ⟨nc, 0, none⟩) n n) := cell_of h.blk 0
  have nn := h.nn
  have wn : IntKind.u64.wrap (n : Int) = (n : Int) := u64_lt (by omega)
  have H := keepH h
  by_cases hi : addr < n
  · have t1 : (addr : Int) < (n : Int) := by omega
    have cx := h.own.cell addr (by rw [h.os.1]; exact hi)
    have fx := free_of h.own addr
    clear h
    go_enter Tryz.func79, Tryz.ntmps79
    go_wp2_with fail
    go_end0
    exact ⟨rfl, ⟨nc, av, _, (H.out.put addr v hi hv).1⟩, (H.out.put addr v hi hv).2⟩
  · have t1 : ¬ (addr : Int) < (n : Int) := by omega
    have e0 : stN n cs addr v = cs := by simp [stN, hi]
    clear h
    go_enter Tryz.func79, Tryz.ntmps79
    go_wp2_with fail
    go_end0
    exact ⟨rfl, ⟨nc, av, os, H.out⟩, Goes.refl _ _⟩

set_option maxRecDepth 100000 in
theorem r_load (nm n next addr : Nat) (th : Int) (R : Nat → Prop) (cs : List Nat) (l : List Acc) (W : World) (h : RMem W R nm n next cs l) (hl : l.length < 1099511627776) (ha : addr < 18446744073709551616) :
    Calls Tryz.prog 82 #[.pointer (some ⟨nm, 0, none⟩), .int .i64 th, .int .u64 (addr : Int)] W fun e W' => e = .returned (.int .u64 (cellN cs addr : Int)) ∧ ∃ R', RMem W' R' nm n next cs (l ++ [⟨th, 1, addr, 0, 0, .slice none 0 0, [], cellN cs addr, false⟩]) ∧ Goes W W' R R' := by
  have H := keepH h
  clear h
  go_enter Tryz.func82, Tryz.ntmps82
  go_wp2_with fail
  refine (r_peek nm n next addr R cs l _ H.out ha).mono ?_
  rintro e w1 ⟨rfl, rfl⟩
  go_wp2_with fail
  refine (r_note nm n next th 1 addr 0 0 (cellN cs addr) false R cs l _ H.out hl).mono ?_
  rintro e w2 ⟨rfl, R2, M2, G2⟩
  have HM2 := keepH M2
  have HG2 := keepH G2
  clear M2 G2
  go_wp2_with fail
  go_ret
  exact ⟨by simp, R2, HM2.out, HG2.out⟩

set_option maxRecDepth 100000 in
theorem r_store (nm n next addr v : Nat) (th : Int) (R : Nat → Prop) (cs : List Nat) (l : List Acc) (W : World) (h : RMem W R nm n next cs l) (hl : l.length < 1099511627776) (ha : addr < 18446744073709551616) (hv : v < 18446744073709551616) :
    Calls Tryz.prog 30 #[.pointer (some ⟨nm, 0, none⟩), .int .i64 th, .int .u64 (addr : Int), .int .u64 (v : Int)] W fun e W' => e = .returned (.tuple #[]) ∧ ∃ R', RMem W' R' nm n next (stN n cs addr v) (l ++ [⟨th, 2, addr, v, 0, .slice none 0 0, [], 0, false⟩]) ∧ Goes W W' R R' := by
  have H := keepH h
  clear h
  go_enter Tryz.func30, Tryz.ntmps30
  go_wp2_with fail
  refine (r_set nm n next addr v R cs l _ H.out ha hv).mono ?_
  rintro e w1 ⟨rfl, M1, G1⟩
  have HM1 := keepH M1
  have HG1 := keepH G1
  clear M1 G1
  go_wp2_with fail
  refine (r_note nm n next th 2 addr v 0 0 false R _ l _ HM1.out hl).mono ?_
  rintro e w2 ⟨rfl, R2, M2, G2⟩
  have HM2 := keepH M2
  have HG2 := keepH (HG1.out.trans G2)
  clear M2 G2
  go_wp2_with fail
  go_end0
  exact ⟨rfl, R2, HM2.out, HG2.out⟩

theorem casN_stN (n : Nat) (cs : List Nat) (addr old now : Nat) (h : addr < n) (he : cellN cs addr = old) : casN n cs addr old now = stN n cs addr now := by simp [casN, stN, h, he]

set_option maxRecDepth 100000 in
set_option maxHeartbeats 4000000 in
theorem r_cas (nm n next addr old now : Nat) (th : Int) (R : Nat → Prop) (cs : List Nat) (l : List Acc) (W : World) (h : RMem W R nm n next cs l) (hl : l.length < 1099511627776) (ha : addr < 18446744073709551616) (hv : now < 18446744073709551616) :
    Calls Tryz.prog 83 #[.pointer (some ⟨nm, 0, none⟩), .int .i64 th, .int .u64 (addr : Int), .int .u64 (old : Int), .int .u64 (now : Int)] W fun e W' => e = .returned (.bool (casOk n cs addr old)) ∧ ∃ R', RMem W' R' nm n next (casN n cs addr old now) (l ++ [⟨th, 3, addr, old, now, .slice none 0 0, [], 0, casOk n cs addr old⟩]) ∧ Goes W W' R R' := by
  have H := keepH h
  obtain ⟨nc, av, os, h⟩ := h
  have c0 : W.cell? ⟨nm, 0, none⟩ = some (.slice (some ⟨nc, 0, none⟩) n n) := cell_of h.blk 0
  have nn := h.nn
  have wn : IntKind.u64.wrap (n : Int) = (n : Int) := u64_lt (by omega)
  by_cases hi : addr < n
  · have t1 : (addr : Int) < (n : Int) := by omega
    have cx := h.own.cell addr (by rw [h.os.1]; exact hi)
    rw [h.os.2.1 _ hi] at cx
    by_cases he : cellN cs addr = old
    · have k1 : casOk n cs addr old = true := by simp [casOk, hi, he]
      have k2 := casN_stN n cs addr old now hi he
      rw [k1, k2]
      rw [he] at cx
      clear h he k1 k2
      go_enter Tryz.func83, Tryz.ntmps83
      go_wp2_with fail
      refine (r_set nm n next addr now R cs l _ H.out ha hv).mono ?_
      rintro e w1 ⟨rfl, M1, G1⟩
      have HM1 := keepH M1
      have HG1 := keepH G1
      clear M1 G1
      go_wp2_with fail
      refine (r_note nm n next th 3 addr old now 0 true R _ l _ HM1.out hl).mono ?_
      rintro e w2 ⟨rfl, R2, M2, G2⟩
      have HM2 := keepH M2
      have HG2 := keepH (HG1.out.trans G2)
      clear M2 G2
      go_wp2_with fail
      go_ret
      exact ⟨by simp, R2, HM2.out, HG2.out⟩
    · have k1 : casOk n cs addr old = false := by simp [casOk, he]
      have k2 : casN n cs addr old now = cs := by simp [casN, he]
      rw [k1, k2]
      have t2 : ((cellN cs addr : Int) == (old : Int)) = false := beq_eq_false_iff_ne.2 (by omega)
      obtain ⟨d, hd⟩ : ∃ d, d = cellN cs addr := ⟨_, rfl⟩
      rw [← hd] at cx t2
      clear h he k1 k2 hd
      go_enter Tryz.func83, Tryz.ntmps83
      go_wp2_with fail
      refine (r_note nm n next th 3 addr old now 0 false R cs l _ H.out hl).mono ?_
      rintro e w2 ⟨rfl, R2, M2, G2⟩
      have HM2 := keepH M2
      have HG2 := keepH G2
      clear M2 G2
      go_wp2_with fail
      go_ret
      exact ⟨by simp, R2, HM2.out, HG2.out⟩
  · have t1 : ¬ (addr : Int) < (n : Int) := by omega
    have k1 : casOk n cs addr old = false := by simp [casOk, hi]
    have k2 : casN n cs addr old now = cs := by simp [casN, hi]
    rw [k1, k2]
    clear h k1 k2
    go_enter Tryz.func83, Tryz.ntmps83
    go_wp2_with fail
    refine (r_note nm n next th 3 addr old now 0 false R cs l _ H.out hl).mono ?_
    rintro e w2 ⟨rfl, R2, M2, G2⟩
    have HM2 := keepH M2
    have HG2 := keepH G2
    clear M2 G2
    go_wp2_with fail
    go_ret
    exact ⟨by simp, R2, HM2.out, HG2.out⟩

set_option maxRecDepth 100000 in
theorem r_new (n : Nat) (W : World) (hn : 128 ≤ n ∧ n ≤ 4194304) :
    Calls Tryz.prog 27 #[.int .i64 (n : Int), .bool false] W fun e W' => e = .returned (.tuple #[.pointer (some ⟨W.heap.size + 1, 0, none⟩), .int .i64 0]) ∧ RMem W' (fun k => k = W.heap.size ∨ k = W.heap.size + 1) (W.heap.size + 1) n 1 [] [] ∧ Chg (fun _ => False) W W' ∧ W'.heap.size = W.heap.size + 2 := by
  have t1 : ¬ (n : Int) < 128 := by omega
  have t2 : ¬ (4194304 : Int) < (n : Int) := by omega
  obtain ⟨w3, hmk, hO3, hC3, hS3⟩ := make_u64s n hn.2 W
  have HO3 := keepH hO3
  have HC3 := keepH hC3
  have HS3 := keepH hS3
  clear hO3 hC3
  go_enter Tryz.func27, Tryz.ntmps27
  go_wp2_with fail
  go_ret2
  have hs := HS3.out
  have eN := heap_alloc_new w3 (.cells (rmCells W.heap.size n 1 (.slice none 0 0)) 115)
  rw [hs] at eN
  refine ⟨by simp, ⟨W.heap.size, .slice none 0 0, List.replicate n 0, eN, (Below.heap_alloc _ _ _ (by omega)).trans HO3.out, own_zero n, World.ownsRow_nil _ _ _ _, fun x hx => by simp at hx, .inr rfl, .inl rfl, fun k e => by simp [Value.ownBlock] at e, fun x hx => by simp at hx, fun x hx => by simp at hx, fun k e => by simp; omega, hn, fun i => by simp [cellN]⟩, HC3.out.alloc _, by simp [hs]⟩
end Go.Proofs.YtnhiodmigmmfgaaGreat
/- The document's memory: Add. -/
namespace Go.Proofs.YtnhiodmigmmfgaaGreat
open Go.RowKit Go.Shelf
set_option linter.unusedVariables false

set_option maxRecDepth 100000 in
theorem r_add (nm sz next addr n : Nat) (th : Int) (R : Nat → Prop) (cs : List Nat) (l : List Acc) (W : World) (h : RMem W R nm sz next cs l) (hl : l.length < 1099511627776) (ha : addr < 18446744073709551616) :
    Calls Tryz.prog 84 #[.pointer (some ⟨nm, 0, none⟩), .int .i64 th, .int .u64 (addr : Int), .int .u64 (n : Int)] W fun e W' => e = .returned (.int .u64 (cellN cs addr : Int)) ∧ ∃ R', RMem W' R' nm sz next (stN sz cs addr (addN (cellN cs addr) n)) (l ++ [⟨th, 4, addr, n, 0, .slice none 0 0, [], cellN cs addr, false⟩]) ∧ Goes W W' R R' := by
  have H := keepH h
  clear h
  obtain ⟨x, hx⟩ : ∃ x, x = cellN cs addr := ⟨_, rfl⟩
  obtain ⟨s, hs⟩ : ∃ s, s = addN x n := ⟨_, rfl⟩
  have w1 : IntKind.u64.wrap ((x : Int) + (n : Int)) = (s : Int) := by rw [hs, IntKind.wrap_u64]; unfold addN; omega
  have HP := keepH (r_peek nm sz next addr R cs l W H.out ha)
  have HS := keepH (r_set nm sz next addr s R cs l W H.out ha (by rw [hs]; unfold addN; omega))
  rw [← hx] at HP
  rw [← hx, ← hs]
  clear hx hs
  go_enter Tryz.func84, Tryz.ntmps84
  go_wp2_with fail
  refine HP.out.mono ?_
  rintro e w2 ⟨rfl, rfl⟩
  go_wp2_with fail
  refine HS.out.mono ?_
  rintro e w3 ⟨rfl, M1, G1⟩
  have HM1 := keepH M1
  have HG1 := keepH G1
  clear M1 G1
  go_wp2_with fail
  refine (r_note nm sz next th 4 addr n 0 x false R _ l _ HM1.out hl).mono ?_
  rintro e w4 ⟨rfl, R2, M2, G2⟩
  have HM2 := keepH M2
  have HG2 := keepH (HG1.out.trans G2)
  clear M2 G2
  go_wp2_with fail
  go_ret
  exact ⟨by simp, R2, HM2.out, HG2.out⟩
end Go.Proofs.YtnhiodmigmmfgaaGreat
