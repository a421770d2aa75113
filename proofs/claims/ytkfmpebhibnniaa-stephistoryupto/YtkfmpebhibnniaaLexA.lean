/- A great region that only reads: the order of the text serves. -/
import Derived.Test.YtkfmpebhibnniaaProg
import Derived.WalkKit
import Derived.BigQuiet
namespace Go.Proofs.Ytkfmpebhibnniaa
open Go Go.RowKit
set_option maxRecDepth 100000

/-- The operations of a region of a body, by its number. -/
def opsIn (id : Nat) : Code → List Oper
  | .region i ops _ => if i = id then ops.toList else []
  | .seq a b => opsIn id a ++ opsIn id b
  | .cond _ a b => opsIn id a ++ opsIn id b
  | .block _ a => opsIn id a
  | .loop a => opsIn id a
  | .scope a => opsIn id a
  | _ => []
def lsA (k : Nat) : Array Bool := (List.replicate k true ++ List.replicate (103 - k) false).toArray
theorem lexA_step {n k : Nat} (hk : k + (n + 1) = 103) (h : ((Region.ready .any (opsIn 6 (Try.f17.body.getD .skip)).toArray (lsA k)).contains k && Region.free .any (opsIn 6 (Try.f17.body.getD .skip)).toArray (lsA k) k) = true) (h2 : Region.lexFrom .any (opsIn 6 (Try.f17.body.getD .skip)).toArray n (k + 1) (lsA (k + 1)) = true) : Region.lexFrom .any (opsIn 6 (Try.f17.body.getD .skip)).toArray (n + 1) k (lsA k) = true := by
  have e : (lsA k).setIfInBounds k true = lsA (k + 1) := by
    apply Array.ext'
    unfold lsA
    have e1 : 103 - k = (103 - (k + 1)) + 1 := by omega
    rw [e1]
    simp only [List.setIfInBounds_toArray]
    rw [List.set_append_right _ _ (by simp)]
    rw [show List.replicate (k + 1) true = List.replicate k true ++ [true] from List.replicate_succ']
    simp [List.replicate_succ]
  rw [Region.lexFrom, h, e, h2]
  rfl
theorem lexA_0 : ((Region.ready .any (opsIn 6 (Try.f17.body.getD .skip)).toArray (lsA 0)).contains 0 && Region.free .any (opsIn 6 (Try.f17.body.getD .skip)).toArray (lsA 0) 0) = true := by kernel_rfl
theorem lexA_1 : ((Region.ready .any (opsIn 6 (Try.f17.body.getD .skip)).toArray (lsA 1)).contains 1 && Region.free .any (opsIn 6 (Try.f17.body.getD .skip)).toArray (lsA 1) 1) = true := by kernel_rfl
theorem lexA_2 : ((Region.ready .any (opsIn 6 (Try.f17.body.getD .skip)).toArray (lsA 2)).contains 2 && Region.free .any (opsIn 6 (Try.f17.body.getD .skip)).toArray (lsA 2) 2) = true := by kernel_rfl
theorem lexA_3 : ((Region.ready .any (opsIn 6 (Try.f17.body.getD .skip)).toArray (lsA 3)).contains 3 && Region.free .any (opsIn 6 (Try.f17.body.getD .skip)).toArray (lsA 3) 3) = true := by kernel_rfl
theorem lexA_4 : ((Region.ready .any (opsIn 6 (Try.f17.body.getD .skip)).toArray (lsA 4)).contains 4 && Region.free .any (opsIn 6 (Try.f17.body.getD .skip)).toArray (lsA 4) 4) = true := by kernel_rfl
theorem lexA_5 : ((Region.ready .any (opsIn 6 (Try.f17.body.getD .skip)).toArray (lsA 5)).contains 5 && Region.free .any (opsIn 6 (Try.f17.body.getD .skip)).toArray (lsA 5) 5) = true := by kernel_rfl
theorem lexA_6 : ((Region.ready .any (opsIn 6 (Try.f17.body.getD .skip)).toArray (lsA 6)).contains 6 && Region.free .any (opsIn 6 (Try.f17.body.getD .skip)).toArray (lsA 6) 6) = true := by kernel_rfl
theorem lexA_7 : ((Region.ready .any (opsIn 6 (Try.f17.body.getD .skip)).toArray (lsA 7)).contains 7 && Region.free .any (opsIn 6 (Try.f17.body.getD .skip)).toArray (lsA 7) 7) = true := by kernel_rfl
theorem lexA_8 : ((Region.ready .any (opsIn 6 (Try.f17.body.getD .skip)).toArray (lsA 8)).contains 8 && Region.free .any (opsIn 6 (Try.f17.body.getD .skip)).toArray (lsA 8) 8) = true := by kernel_rfl
theorem lexA_9 : ((Region.ready .any (opsIn 6 (Try.f17.body.getD .skip)).toArray (lsA 9)).contains 9 && Region.free .any (opsIn 6 (Try.f17.body.getD .skip)).toArray (lsA 9) 9) = true := by kernel_rfl
theorem lexA_10 : ((Region.ready .any (opsIn 6 (Try.f17.body.getD .skip)).toArray (lsA 10)).contains 10 && Region.free .any (opsIn 6 (Try.f17.body.getD .skip)).toArray (lsA 10) 10) = true := by kernel_rfl
theorem lexA_11 : ((Region.ready .any (opsIn 6 (Try.f17.body.getD .skip)).toArray (lsA 11)).contains 11 && Region.free .any (opsIn 6 (Try.f17.body.getD .skip)).toArray (lsA 11) 11) = true := by kernel_rfl
theorem lexA_12 : ((Region.ready .any (opsIn 6 (Try.f17.body.getD .skip)).toArray (lsA 12)).contains 12 && Region.free .any (opsIn 6 (Try.f17.body.getD .skip)).toArray (lsA 12) 12) = true := by kernel_rfl
theorem lexA_13 : ((Region.ready .any (opsIn 6 (Try.f17.body.getD .skip)).toArray (lsA 13)).contains 13 && Region.free .any (opsIn 6 (Try.f17.body.getD .skip)).toArray (lsA 13) 13) = true := by kernel_rfl
theorem lexA_14 : ((Region.ready .any (opsIn 6 (Try.f17.body.getD .skip)).toArray (lsA 14)).contains 14 && Region.free .any (opsIn 6 (Try.f17.body.getD .skip)).toArray (lsA 14) 14) = true := by kernel_rfl
theorem lexA_15 : ((Region.ready .any (opsIn 6 (Try.f17.body.getD .skip)).toArray (lsA 15)).contains 15 && Region.free .any (opsIn 6 (Try.f17.body.getD .skip)).toArray (lsA 15) 15) = true := by kernel_rfl
theorem lexA_16 : ((Region.ready .any (opsIn 6 (Try.f17.body.getD .skip)).toArray (lsA 16)).contains 16 && Region.free .any (opsIn 6 (Try.f17.body.getD .skip)).toArray (lsA 16) 16) = true := by kernel_rfl
theorem lexA_17 : ((Region.ready .any (opsIn 6 (Try.f17.body.getD .skip)).toArray (lsA 17)).contains 17 && Region.free .any (opsIn 6 (Try.f17.body.getD .skip)).toArray (lsA 17) 17) = true := by kernel_rfl
theorem lexA_18 : ((Region.ready .any (opsIn 6 (Try.f17.body.getD .skip)).toArray (lsA 18)).contains 18 && Region.free .any (opsIn 6 (Try.f17.body.getD .skip)).toArray (lsA 18) 18) = true := by kernel_rfl
theorem lexA_19 : ((Region.ready .any (opsIn 6 (Try.f17.body.getD .skip)).toArray (lsA 19)).contains 19 && Region.free .any (opsIn 6 (Try.f17.body.getD .skip)).toArray (lsA 19) 19) = true := by kernel_rfl
theorem lexA_20 : ((Region.ready .any (opsIn 6 (Try.f17.body.getD .skip)).toArray (lsA 20)).contains 20 && Region.free .any (opsIn 6 (Try.f17.body.getD .skip)).toArray (lsA 20) 20) = true := by kernel_rfl
theorem lexA_21 : ((Region.ready .any (opsIn 6 (Try.f17.body.getD .skip)).toArray (lsA 21)).contains 21 && Region.free .any (opsIn 6 (Try.f17.body.getD .skip)).toArray (lsA 21) 21) = true := by kernel_rfl
theorem lexA_22 : ((Region.ready .any (opsIn 6 (Try.f17.body.getD .skip)).toArray (lsA 22)).contains 22 && Region.free .any (opsIn 6 (Try.f17.body.getD .skip)).toArray (lsA 22) 22) = true := by kernel_rfl
theorem lexA_23 : ((Region.ready .any (opsIn 6 (Try.f17.body.getD .skip)).toArray (lsA 23)).contains 23 && Region.free .any (opsIn 6 (Try.f17.body.getD .skip)).toArray (lsA 23) 23) = true := by kernel_rfl
theorem lexA_24 : ((Region.ready .any (opsIn 6 (Try.f17.body.getD .skip)).toArray (lsA 24)).contains 24 && Region.free .any (opsIn 6 (Try.f17.body.getD .skip)).toArray (lsA 24) 24) = true := by kernel_rfl
theorem lexA_25 : ((Region.ready .any (opsIn 6 (Try.f17.body.getD .skip)).toArray (lsA 25)).contains 25 && Region.free .any (opsIn 6 (Try.f17.body.getD .skip)).toArray (lsA 25) 25) = true := by kernel_rfl
theorem lexA_26 : ((Region.ready .any (opsIn 6 (Try.f17.body.getD .skip)).toArray (lsA 26)).contains 26 && Region.free .any (opsIn 6 (Try.f17.body.getD .skip)).toArray (lsA 26) 26) = true := by kernel_rfl
theorem lexA_27 : ((Region.ready .any (opsIn 6 (Try.f17.body.getD .skip)).toArray (lsA 27)).contains 27 && Region.free .any (opsIn 6 (Try.f17.body.getD .skip)).toArray (lsA 27) 27) = true := by kernel_rfl
theorem lexA_28 : ((Region.ready .any (opsIn 6 (Try.f17.body.getD .skip)).toArray (lsA 28)).contains 28 && Region.free .any (opsIn 6 (Try.f17.body.getD .skip)).toArray (lsA 28) 28) = true := by kernel_rfl
theorem lexA_29 : ((Region.ready .any (opsIn 6 (Try.f17.body.getD .skip)).toArray (lsA 29)).contains 29 && Region.free .any (opsIn 6 (Try.f17.body.getD .skip)).toArray (lsA 29) 29) = true := by kernel_rfl
theorem lexA_30 : ((Region.ready .any (opsIn 6 (Try.f17.body.getD .skip)).toArray (lsA 30)).contains 30 && Region.free .any (opsIn 6 (Try.f17.body.getD .skip)).toArray (lsA 30) 30) = true := by kernel_rfl
theorem lexA_31 : ((Region.ready .any (opsIn 6 (Try.f17.body.getD .skip)).toArray (lsA 31)).contains 31 && Region.free .any (opsIn 6 (Try.f17.body.getD .skip)).toArray (lsA 31) 31) = true := by kernel_rfl
theorem lexA_32 : ((Region.ready .any (opsIn 6 (Try.f17.body.getD .skip)).toArray (lsA 32)).contains 32 && Region.free .any (opsIn 6 (Try.f17.body.getD .skip)).toArray (lsA 32) 32) = true := by kernel_rfl
theorem lexA_33 : ((Region.ready .any (opsIn 6 (Try.f17.body.getD .skip)).toArray (lsA 33)).contains 33 && Region.free .any (opsIn 6 (Try.f17.body.getD .skip)).toArray (lsA 33) 33) = true := by kernel_rfl
theorem lexA_34 : ((Region.ready .any (opsIn 6 (Try.f17.body.getD .skip)).toArray (lsA 34)).contains 34 && Region.free .any (opsIn 6 (Try.f17.body.getD .skip)).toArray (lsA 34) 34) = true := by kernel_rfl
theorem lexA_35 : ((Region.ready .any (opsIn 6 (Try.f17.body.getD .skip)).toArray (lsA 35)).contains 35 && Region.free .any (opsIn 6 (Try.f17.body.getD .skip)).toArray (lsA 35) 35) = true := by kernel_rfl
theorem lexA_36 : ((Region.ready .any (opsIn 6 (Try.f17.body.getD .skip)).toArray (lsA 36)).contains 36 && Region.free .any (opsIn 6 (Try.f17.body.getD .skip)).toArray (lsA 36) 36) = true := by kernel_rfl
theorem lexA_37 : ((Region.ready .any (opsIn 6 (Try.f17.body.getD .skip)).toArray (lsA 37)).contains 37 && Region.free .any (opsIn 6 (Try.f17.body.getD .skip)).toArray (lsA 37) 37) = true := by kernel_rfl
theorem lexA_38 : ((Region.ready .any (opsIn 6 (Try.f17.body.getD .skip)).toArray (lsA 38)).contains 38 && Region.free .any (opsIn 6 (Try.f17.body.getD .skip)).toArray (lsA 38) 38) = true := by kernel_rfl
theorem lexA_39 : ((Region.ready .any (opsIn 6 (Try.f17.body.getD .skip)).toArray (lsA 39)).contains 39 && Region.free .any (opsIn 6 (Try.f17.body.getD .skip)).toArray (lsA 39) 39) = true := by kernel_rfl
theorem lexA_40 : ((Region.ready .any (opsIn 6 (Try.f17.body.getD .skip)).toArray (lsA 40)).contains 40 && Region.free .any (opsIn 6 (Try.f17.body.getD .skip)).toArray (lsA 40) 40) = true := by kernel_rfl
theorem lexA_41 : ((Region.ready .any (opsIn 6 (Try.f17.body.getD .skip)).toArray (lsA 41)).contains 41 && Region.free .any (opsIn 6 (Try.f17.body.getD .skip)).toArray (lsA 41) 41) = true := by kernel_rfl
theorem lexA_42 : ((Region.ready .any (opsIn 6 (Try.f17.body.getD .skip)).toArray (lsA 42)).contains 42 && Region.free .any (opsIn 6 (Try.f17.body.getD .skip)).toArray (lsA 42) 42) = true := by kernel_rfl
theorem lexA_43 : ((Region.ready .any (opsIn 6 (Try.f17.body.getD .skip)).toArray (lsA 43)).contains 43 && Region.free .any (opsIn 6 (Try.f17.body.getD .skip)).toArray (lsA 43) 43) = true := by kernel_rfl
theorem lexA_44 : ((Region.ready .any (opsIn 6 (Try.f17.body.getD .skip)).toArray (lsA 44)).contains 44 && Region.free .any (opsIn 6 (Try.f17.body.getD .skip)).toArray (lsA 44) 44) = true := by kernel_rfl
theorem lexA_45 : ((Region.ready .any (opsIn 6 (Try.f17.body.getD .skip)).toArray (lsA 45)).contains 45 && Region.free .any (opsIn 6 (Try.f17.body.getD .skip)).toArray (lsA 45) 45) = true := by kernel_rfl
theorem lexA_46 : ((Region.ready .any (opsIn 6 (Try.f17.body.getD .skip)).toArray (lsA 46)).contains 46 && Region.free .any (opsIn 6 (Try.f17.body.getD .skip)).toArray (lsA 46) 46) = true := by kernel_rfl
theorem lexA_47 : ((Region.ready .any (opsIn 6 (Try.f17.body.getD .skip)).toArray (lsA 47)).contains 47 && Region.free .any (opsIn 6 (Try.f17.body.getD .skip)).toArray (lsA 47) 47) = true := by kernel_rfl
theorem lexA_48 : ((Region.ready .any (opsIn 6 (Try.f17.body.getD .skip)).toArray (lsA 48)).contains 48 && Region.free .any (opsIn 6 (Try.f17.body.getD .skip)).toArray (lsA 48) 48) = true := by kernel_rfl
theorem lexA_49 : ((Region.ready .any (opsIn 6 (Try.f17.body.getD .skip)).toArray (lsA 49)).contains 49 && Region.free .any (opsIn 6 (Try.f17.body.getD .skip)).toArray (lsA 49) 49) = true := by kernel_rfl
theorem lexA_50 : ((Region.ready .any (opsIn 6 (Try.f17.body.getD .skip)).toArray (lsA 50)).contains 50 && Region.free .any (opsIn 6 (Try.f17.body.getD .skip)).toArray (lsA 50) 50) = true := by kernel_rfl
theorem lexA_51 : ((Region.ready .any (opsIn 6 (Try.f17.body.getD .skip)).toArray (lsA 51)).contains 51 && Region.free .any (opsIn 6 (Try.f17.body.getD .skip)).toArray (lsA 51) 51) = true := by kernel_rfl
theorem lexA_52 : ((Region.ready .any (opsIn 6 (Try.f17.body.getD .skip)).toArray (lsA 52)).contains 52 && Region.free .any (opsIn 6 (Try.f17.body.getD .skip)).toArray (lsA 52) 52) = true := by kernel_rfl
theorem lexA_53 : ((Region.ready .any (opsIn 6 (Try.f17.body.getD .skip)).toArray (lsA 53)).contains 53 && Region.free .any (opsIn 6 (Try.f17.body.getD .skip)).toArray (lsA 53) 53) = true := by kernel_rfl
theorem lexA_54 : ((Region.ready .any (opsIn 6 (Try.f17.body.getD .skip)).toArray (lsA 54)).contains 54 && Region.free .any (opsIn 6 (Try.f17.body.getD .skip)).toArray (lsA 54) 54) = true := by kernel_rfl
theorem lexA_55 : ((Region.ready .any (opsIn 6 (Try.f17.body.getD .skip)).toArray (lsA 55)).contains 55 && Region.free .any (opsIn 6 (Try.f17.body.getD .skip)).toArray (lsA 55) 55) = true := by kernel_rfl
theorem lexA_56 : ((Region.ready .any (opsIn 6 (Try.f17.body.getD .skip)).toArray (lsA 56)).contains 56 && Region.free .any (opsIn 6 (Try.f17.body.getD .skip)).toArray (lsA 56) 56) = true := by kernel_rfl
theorem lexA_57 : ((Region.ready .any (opsIn 6 (Try.f17.body.getD .skip)).toArray (lsA 57)).contains 57 && Region.free .any (opsIn 6 (Try.f17.body.getD .skip)).toArray (lsA 57) 57) = true := by kernel_rfl
theorem lexA_58 : ((Region.ready .any (opsIn 6 (Try.f17.body.getD .skip)).toArray (lsA 58)).contains 58 && Region.free .any (opsIn 6 (Try.f17.body.getD .skip)).toArray (lsA 58) 58) = true := by kernel_rfl
theorem lexA_59 : ((Region.ready .any (opsIn 6 (Try.f17.body.getD .skip)).toArray (lsA 59)).contains 59 && Region.free .any (opsIn 6 (Try.f17.body.getD .skip)).toArray (lsA 59) 59) = true := by kernel_rfl
theorem lexA_60 : ((Region.ready .any (opsIn 6 (Try.f17.body.getD .skip)).toArray (lsA 60)).contains 60 && Region.free .any (opsIn 6 (Try.f17.body.getD .skip)).toArray (lsA 60) 60) = true := by kernel_rfl
theorem lexA_61 : ((Region.ready .any (opsIn 6 (Try.f17.body.getD .skip)).toArray (lsA 61)).contains 61 && Region.free .any (opsIn 6 (Try.f17.body.getD .skip)).toArray (lsA 61) 61) = true := by kernel_rfl
theorem lexA_62 : ((Region.ready .any (opsIn 6 (Try.f17.body.getD .skip)).toArray (lsA 62)).contains 62 && Region.free .any (opsIn 6 (Try.f17.body.getD .skip)).toArray (lsA 62) 62) = true := by kernel_rfl
theorem lexA_63 : ((Region.ready .any (opsIn 6 (Try.f17.body.getD .skip)).toArray (lsA 63)).contains 63 && Region.free .any (opsIn 6 (Try.f17.body.getD .skip)).toArray (lsA 63) 63) = true := by kernel_rfl
theorem lexA_64 : ((Region.ready .any (opsIn 6 (Try.f17.body.getD .skip)).toArray (lsA 64)).contains 64 && Region.free .any (opsIn 6 (Try.f17.body.getD .skip)).toArray (lsA 64) 64) = true := by kernel_rfl
theorem lexA_65 : ((Region.ready .any (opsIn 6 (Try.f17.body.getD .skip)).toArray (lsA 65)).contains 65 && Region.free .any (opsIn 6 (Try.f17.body.getD .skip)).toArray (lsA 65) 65) = true := by kernel_rfl
theorem lexA_66 : ((Region.ready .any (opsIn 6 (Try.f17.body.getD .skip)).toArray (lsA 66)).contains 66 && Region.free .any (opsIn 6 (Try.f17.body.getD .skip)).toArray (lsA 66) 66) = true := by kernel_rfl
theorem lexA_67 : ((Region.ready .any (opsIn 6 (Try.f17.body.getD .skip)).toArray (lsA 67)).contains 67 && Region.free .any (opsIn 6 (Try.f17.body.getD .skip)).toArray (lsA 67) 67) = true := by kernel_rfl
theorem lexA_68 : ((Region.ready .any (opsIn 6 (Try.f17.body.getD .skip)).toArray (lsA 68)).contains 68 && Region.free .any (opsIn 6 (Try.f17.body.getD .skip)).toArray (lsA 68) 68) = true := by kernel_rfl
theorem lexA_69 : ((Region.ready .any (opsIn 6 (Try.f17.body.getD .skip)).toArray (lsA 69)).contains 69 && Region.free .any (opsIn 6 (Try.f17.body.getD .skip)).toArray (lsA 69) 69) = true := by kernel_rfl
theorem lexA_70 : ((Region.ready .any (opsIn 6 (Try.f17.body.getD .skip)).toArray (lsA 70)).contains 70 && Region.free .any (opsIn 6 (Try.f17.body.getD .skip)).toArray (lsA 70) 70) = true := by kernel_rfl
theorem lexA_71 : ((Region.ready .any (opsIn 6 (Try.f17.body.getD .skip)).toArray (lsA 71)).contains 71 && Region.free .any (opsIn 6 (Try.f17.body.getD .skip)).toArray (lsA 71) 71) = true := by kernel_rfl
theorem lexA_72 : ((Region.ready .any (opsIn 6 (Try.f17.body.getD .skip)).toArray (lsA 72)).contains 72 && Region.free .any (opsIn 6 (Try.f17.body.getD .skip)).toArray (lsA 72) 72) = true := by kernel_rfl
theorem lexA_73 : ((Region.ready .any (opsIn 6 (Try.f17.body.getD .skip)).toArray (lsA 73)).contains 73 && Region.free .any (opsIn 6 (Try.f17.body.getD .skip)).toArray (lsA 73) 73) = true := by kernel_rfl
theorem lexA_74 : ((Region.ready .any (opsIn 6 (Try.f17.body.getD .skip)).toArray (lsA 74)).contains 74 && Region.free .any (opsIn 6 (Try.f17.body.getD .skip)).toArray (lsA 74) 74) = true := by kernel_rfl
theorem lexA_75 : ((Region.ready .any (opsIn 6 (Try.f17.body.getD .skip)).toArray (lsA 75)).contains 75 && Region.free .any (opsIn 6 (Try.f17.body.getD .skip)).toArray (lsA 75) 75) = true := by kernel_rfl
theorem lexA_76 : ((Region.ready .any (opsIn 6 (Try.f17.body.getD .skip)).toArray (lsA 76)).contains 76 && Region.free .any (opsIn 6 (Try.f17.body.getD .skip)).toArray (lsA 76) 76) = true := by kernel_rfl
theorem lexA_77 : ((Region.ready .any (opsIn 6 (Try.f17.body.getD .skip)).toArray (lsA 77)).contains 77 && Region.free .any (opsIn 6 (Try.f17.body.getD .skip)).toArray (lsA 77) 77) = true := by kernel_rfl
theorem lexA_78 : ((Region.ready .any (opsIn 6 (Try.f17.body.getD .skip)).toArray (lsA 78)).contains 78 && Region.free .any (opsIn 6 (Try.f17.body.getD .skip)).toArray (lsA 78) 78) = true := by kernel_rfl
theorem lexA_79 : ((Region.ready .any (opsIn 6 (Try.f17.body.getD .skip)).toArray (lsA 79)).contains 79 && Region.free .any (opsIn 6 (Try.f17.body.getD .skip)).toArray (lsA 79) 79) = true := by kernel_rfl
theorem lexA_80 : ((Region.ready .any (opsIn 6 (Try.f17.body.getD .skip)).toArray (lsA 80)).contains 80 && Region.free .any (opsIn 6 (Try.f17.body.getD .skip)).toArray (lsA 80) 80) = true := by kernel_rfl
theorem lexA_81 : ((Region.ready .any (opsIn 6 (Try.f17.body.getD .skip)).toArray (lsA 81)).contains 81 && Region.free .any (opsIn 6 (Try.f17.body.getD .skip)).toArray (lsA 81) 81) = true := by kernel_rfl
theorem lexA_82 : ((Region.ready .any (opsIn 6 (Try.f17.body.getD .skip)).toArray (lsA 82)).contains 82 && Region.free .any (opsIn 6 (Try.f17.body.getD .skip)).toArray (lsA 82) 82) = true := by kernel_rfl
theorem lexA_83 : ((Region.ready .any (opsIn 6 (Try.f17.body.getD .skip)).toArray (lsA 83)).contains 83 && Region.free .any (opsIn 6 (Try.f17.body.getD .skip)).toArray (lsA 83) 83) = true := by kernel_rfl
theorem lexA_84 : ((Region.ready .any (opsIn 6 (Try.f17.body.getD .skip)).toArray (lsA 84)).contains 84 && Region.free .any (opsIn 6 (Try.f17.body.getD .skip)).toArray (lsA 84) 84) = true := by kernel_rfl
theorem lexA_85 : ((Region.ready .any (opsIn 6 (Try.f17.body.getD .skip)).toArray (lsA 85)).contains 85 && Region.free .any (opsIn 6 (Try.f17.body.getD .skip)).toArray (lsA 85) 85) = true := by kernel_rfl
theorem lexA_86 : ((Region.ready .any (opsIn 6 (Try.f17.body.getD .skip)).toArray (lsA 86)).contains 86 && Region.free .any (opsIn 6 (Try.f17.body.getD .skip)).toArray (lsA 86) 86) = true := by kernel_rfl
theorem lexA_87 : ((Region.ready .any (opsIn 6 (Try.f17.body.getD .skip)).toArray (lsA 87)).contains 87 && Region.free .any (opsIn 6 (Try.f17.body.getD .skip)).toArray (lsA 87) 87) = true := by kernel_rfl
theorem lexA_88 : ((Region.ready .any (opsIn 6 (Try.f17.body.getD .skip)).toArray (lsA 88)).contains 88 && Region.free .any (opsIn 6 (Try.f17.body.getD .skip)).toArray (lsA 88) 88) = true := by kernel_rfl
theorem lexA_89 : ((Region.ready .any (opsIn 6 (Try.f17.body.getD .skip)).toArray (lsA 89)).contains 89 && Region.free .any (opsIn 6 (Try.f17.body.getD .skip)).toArray (lsA 89) 89) = true := by kernel_rfl
theorem lexA_90 : ((Region.ready .any (opsIn 6 (Try.f17.body.getD .skip)).toArray (lsA 90)).contains 90 && Region.free .any (opsIn 6 (Try.f17.body.getD .skip)).toArray (lsA 90) 90) = true := by kernel_rfl
theorem lexA_91 : ((Region.ready .any (opsIn 6 (Try.f17.body.getD .skip)).toArray (lsA 91)).contains 91 && Region.free .any (opsIn 6 (Try.f17.body.getD .skip)).toArray (lsA 91) 91) = true := by kernel_rfl
theorem lexA_92 : ((Region.ready .any (opsIn 6 (Try.f17.body.getD .skip)).toArray (lsA 92)).contains 92 && Region.free .any (opsIn 6 (Try.f17.body.getD .skip)).toArray (lsA 92) 92) = true := by kernel_rfl
theorem lexA_93 : ((Region.ready .any (opsIn 6 (Try.f17.body.getD .skip)).toArray (lsA 93)).contains 93 && Region.free .any (opsIn 6 (Try.f17.body.getD .skip)).toArray (lsA 93) 93) = true := by kernel_rfl
theorem lexA_94 : ((Region.ready .any (opsIn 6 (Try.f17.body.getD .skip)).toArray (lsA 94)).contains 94 && Region.free .any (opsIn 6 (Try.f17.body.getD .skip)).toArray (lsA 94) 94) = true := by kernel_rfl
theorem lexA_95 : ((Region.ready .any (opsIn 6 (Try.f17.body.getD .skip)).toArray (lsA 95)).contains 95 && Region.free .any (opsIn 6 (Try.f17.body.getD .skip)).toArray (lsA 95) 95) = true := by kernel_rfl
theorem lexA_96 : ((Region.ready .any (opsIn 6 (Try.f17.body.getD .skip)).toArray (lsA 96)).contains 96 && Region.free .any (opsIn 6 (Try.f17.body.getD .skip)).toArray (lsA 96) 96) = true := by kernel_rfl
theorem lexA_97 : ((Region.ready .any (opsIn 6 (Try.f17.body.getD .skip)).toArray (lsA 97)).contains 97 && Region.free .any (opsIn 6 (Try.f17.body.getD .skip)).toArray (lsA 97) 97) = true := by kernel_rfl
theorem lexA_98 : ((Region.ready .any (opsIn 6 (Try.f17.body.getD .skip)).toArray (lsA 98)).contains 98 && Region.free .any (opsIn 6 (Try.f17.body.getD .skip)).toArray (lsA 98) 98) = true := by kernel_rfl
theorem lexA_99 : ((Region.ready .any (opsIn 6 (Try.f17.body.getD .skip)).toArray (lsA 99)).contains 99 && Region.free .any (opsIn 6 (Try.f17.body.getD .skip)).toArray (lsA 99) 99) = true := by kernel_rfl
theorem lexA_100 : ((Region.ready .any (opsIn 6 (Try.f17.body.getD .skip)).toArray (lsA 100)).contains 100 && Region.free .any (opsIn 6 (Try.f17.body.getD .skip)).toArray (lsA 100) 100) = true := by kernel_rfl
theorem lexA_101 : ((Region.ready .any (opsIn 6 (Try.f17.body.getD .skip)).toArray (lsA 101)).contains 101 && Region.free .any (opsIn 6 (Try.f17.body.getD .skip)).toArray (lsA 101) 101) = true := by kernel_rfl
theorem lexA_102 : ((Region.ready .any (opsIn 6 (Try.f17.body.getD .skip)).toArray (lsA 102)).contains 102 && Region.free .any (opsIn 6 (Try.f17.body.getD .skip)).toArray (lsA 102) 102) = true := by kernel_rfl
theorem lexA_end : Region.lexFrom .any (opsIn 6 (Try.f17.body.getD .skip)).toArray 0 103 (lsA 103) = true := by kernel_rfl
theorem lexA : Region.lexB .any (opsIn 6 (Try.f17.body.getD .skip)).toArray = true := by
  have h0 : Region.noSelect (opsIn 6 (Try.f17.body.getD .skip)).toArray = true := by kernel_rfl
  have h := lexA_end
  replace h := lexA_step (n := 0) (k := 102) (by rfl) lexA_102 h
  replace h := lexA_step (n := 1) (k := 101) (by rfl) lexA_101 h
  replace h := lexA_step (n := 2) (k := 100) (by rfl) lexA_100 h
  replace h := lexA_step (n := 3) (k := 99) (by rfl) lexA_99 h
  replace h := lexA_step (n := 4) (k := 98) (by rfl) lexA_98 h
  replace h := lexA_step (n := 5) (k := 97) (by rfl) lexA_97 h
  replace h := lexA_step (n := 6) (k := 96) (by rfl) lexA_96 h
  replace h := lexA_step (n := 7) (k := 95) (by rfl) lexA_95 h
  replace h := lexA_step (n := 8) (k := 94) (by rfl) lexA_94 h
  replace h := lexA_step (n := 9) (k := 93) (by rfl) lexA_93 h
  replace h := lexA_step (n := 10) (k := 92) (by rfl) lexA_92 h
  replace h := lexA_step (n := 11) (k := 91) (by rfl) lexA_91 h
  replace h := lexA_step (n := 12) (k := 90) (by rfl) lexA_90 h
  replace h := lexA_step (n := 13) (k := 89) (by rfl) lexA_89 h
  replace h := lexA_step (n := 14) (k := 88) (by rfl) lexA_88 h
  replace h := lexA_step (n := 15) (k := 87) (by rfl) lexA_87 h
  replace h := lexA_step (n := 16) (k := 86) (by rfl) lexA_86 h
  replace h := lexA_step (n := 17) (k := 85) (by rfl) lexA_85 h
  replace h := lexA_step (n := 18) (k := 84) (by rfl) lexA_84 h
  replace h := lexA_step (n := 19) (k := 83) (by rfl) lexA_83 h
  replace h := lexA_step (n := 20) (k := 82) (by rfl) lexA_82 h
  replace h := lexA_step (n := 21) (k := 81) (by rfl) lexA_81 h
  replace h := lexA_step (n := 22) (k := 80) (by rfl) lexA_80 h
  replace h := lexA_step (n := 23) (k := 79) (by rfl) lexA_79 h
  replace h := lexA_step (n := 24) (k := 78) (by rfl) lexA_78 h
  replace h := lexA_step (n := 25) (k := 77) (by rfl) lexA_77 h
  replace h := lexA_step (n := 26) (k := 76) (by rfl) lexA_76 h
  replace h := lexA_step (n := 27) (k := 75) (by rfl) lexA_75 h
  replace h := lexA_step (n := 28) (k := 74) (by rfl) lexA_74 h
  replace h := lexA_step (n := 29) (k := 73) (by rfl) lexA_73 h
  replace h := lexA_step (n := 30) (k := 72) (by rfl) lexA_72 h
  replace h := lexA_step (n := 31) (k := 71) (by rfl) lexA_71 h
  replace h := lexA_step (n := 32) (k := 70) (by rfl) lexA_70 h
  replace h := lexA_step (n := 33) (k := 69) (by rfl) lexA_69 h
  replace h := lexA_step (n := 34) (k := 68) (by rfl) lexA_68 h
  replace h := lexA_step (n := 35) (k := 67) (by rfl) lexA_67 h
  replace h := lexA_step (n := 36) (k := 66) (by rfl) lexA_66 h
  replace h := lexA_step (n := 37) (k := 65) (by rfl) lexA_65 h
  replace h := lexA_step (n := 38) (k := 64) (by rfl) lexA_64 h
  replace h := lexA_step (n := 39) (k := 63) (by rfl) lexA_63 h
  replace h := lexA_step (n := 40) (k := 62) (by rfl) lexA_62 h
  replace h := lexA_step (n := 41) (k := 61) (by rfl) lexA_61 h
  replace h := lexA_step (n := 42) (k := 60) (by rfl) lexA_60 h
  replace h := lexA_step (n := 43) (k := 59) (by rfl) lexA_59 h
  replace h := lexA_step (n := 44) (k := 58) (by rfl) lexA_58 h
  replace h := lexA_step (n := 45) (k := 57) (by rfl) lexA_57 h
  replace h := lexA_step (n := 46) (k := 56) (by rfl) lexA_56 h
  replace h := lexA_step (n := 47) (k := 55) (by rfl) lexA_55 h
  replace h := lexA_step (n := 48) (k := 54) (by rfl) lexA_54 h
  replace h := lexA_step (n := 49) (k := 53) (by rfl) lexA_53 h
  replace h := lexA_step (n := 50) (k := 52) (by rfl) lexA_52 h
  replace h := lexA_step (n := 51) (k := 51) (by rfl) lexA_51 h
  replace h := lexA_step (n := 52) (k := 50) (by rfl) lexA_50 h
  replace h := lexA_step (n := 53) (k := 49) (by rfl) lexA_49 h
  replace h := lexA_step (n := 54) (k := 48) (by rfl) lexA_48 h
  replace h := lexA_step (n := 55) (k := 47) (by rfl) lexA_47 h
  replace h := lexA_step (n := 56) (k := 46) (by rfl) lexA_46 h
  replace h := lexA_step (n := 57) (k := 45) (by rfl) lexA_45 h
  replace h := lexA_step (n := 58) (k := 44) (by rfl) lexA_44 h
  replace h := lexA_step (n := 59) (k := 43) (by rfl) lexA_43 h
  replace h := lexA_step (n := 60) (k := 42) (by rfl) lexA_42 h
  replace h := lexA_step (n := 61) (k := 41) (by rfl) lexA_41 h
  replace h := lexA_step (n := 62) (k := 40) (by rfl) lexA_40 h
  replace h := lexA_step (n := 63) (k := 39) (by rfl) lexA_39 h
  replace h := lexA_step (n := 64) (k := 38) (by rfl) lexA_38 h
  replace h := lexA_step (n := 65) (k := 37) (by rfl) lexA_37 h
  replace h := lexA_step (n := 66) (k := 36) (by rfl) lexA_36 h
  replace h := lexA_step (n := 67) (k := 35) (by rfl) lexA_35 h
  replace h := lexA_step (n := 68) (k := 34) (by rfl) lexA_34 h
  replace h := lexA_step (n := 69) (k := 33) (by rfl) lexA_33 h
  replace h := lexA_step (n := 70) (k := 32) (by rfl) lexA_32 h
  replace h := lexA_step (n := 71) (k := 31) (by rfl) lexA_31 h
  replace h := lexA_step (n := 72) (k := 30) (by rfl) lexA_30 h
  replace h := lexA_step (n := 73) (k := 29) (by rfl) lexA_29 h
  replace h := lexA_step (n := 74) (k := 28) (by rfl) lexA_28 h
  replace h := lexA_step (n := 75) (k := 27) (by rfl) lexA_27 h
  replace h := lexA_step (n := 76) (k := 26) (by rfl) lexA_26 h
  replace h := lexA_step (n := 77) (k := 25) (by rfl) lexA_25 h
  replace h := lexA_step (n := 78) (k := 24) (by rfl) lexA_24 h
  replace h := lexA_step (n := 79) (k := 23) (by rfl) lexA_23 h
  replace h := lexA_step (n := 80) (k := 22) (by rfl) lexA_22 h
  replace h := lexA_step (n := 81) (k := 21) (by rfl) lexA_21 h
  replace h := lexA_step (n := 82) (k := 20) (by rfl) lexA_20 h
  replace h := lexA_step (n := 83) (k := 19) (by rfl) lexA_19 h
  replace h := lexA_step (n := 84) (k := 18) (by rfl) lexA_18 h
  replace h := lexA_step (n := 85) (k := 17) (by rfl) lexA_17 h
  replace h := lexA_step (n := 86) (k := 16) (by rfl) lexA_16 h
  replace h := lexA_step (n := 87) (k := 15) (by rfl) lexA_15 h
  replace h := lexA_step (n := 88) (k := 14) (by rfl) lexA_14 h
  replace h := lexA_step (n := 89) (k := 13) (by rfl) lexA_13 h
  replace h := lexA_step (n := 90) (k := 12) (by rfl) lexA_12 h
  replace h := lexA_step (n := 91) (k := 11) (by rfl) lexA_11 h
  replace h := lexA_step (n := 92) (k := 10) (by rfl) lexA_10 h
  replace h := lexA_step (n := 93) (k := 9) (by rfl) lexA_9 h
  replace h := lexA_step (n := 94) (k := 8) (by rfl) lexA_8 h
  replace h := lexA_step (n := 95) (k := 7) (by rfl) lexA_7 h
  replace h := lexA_step (n := 96) (k := 6) (by rfl) lexA_6 h
  replace h := lexA_step (n := 97) (k := 5) (by rfl) lexA_5 h
  replace h := lexA_step (n := 98) (k := 4) (by rfl) lexA_4 h
  replace h := lexA_step (n := 99) (k := 3) (by rfl) lexA_3 h
  replace h := lexA_step (n := 100) (k := 2) (by rfl) lexA_2 h
  replace h := lexA_step (n := 101) (k := 1) (by rfl) lexA_1 h
  replace h := lexA_step (n := 102) (k := 0) (by rfl) lexA_0 h
  have es : (opsIn 6 (Try.f17.body.getD .skip)).toArray.size = 103 := by kernel_rfl
  have el : Array.replicate 103 false = lsA 0 := by kernel_rfl
  rw [Region.lexB, es, el, h0, h]
  rfl
end Go.Proofs.Ytkfmpebhibnniaa
