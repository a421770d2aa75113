/- Which moments are edges: the program's map. (mkRwd.py) -/
import Derived.Test.YtjodechhnobkhaaGreatDoorRwc
import Derived.Laws.Tables
import Derived.Deep.WholeRow
namespace Go.Proofs.YtjodechhnobkhaaGreatDoor
open Go.RowKit
set_option linter.unusedVariables false

def edgesOne (d : Dx) : List (Int × Int) := if 0 ≤ d.til then [(d.th, d.fr), (d.th, d.til)] else [(d.th, d.fr)]
def edgesL (ds : List Dx) : List (Int × Int) := ds.flatMap edgesOne
theorem edgesL_next {ds : List Dx} {i : Nat} {d : Dx} (h : ds[i]? = some d) : edgesL (ds.take (i + 1)) = edgesL (ds.take i) ++ edgesOne d := by
  rw [List.take_add_one, h]
  simp [edgesL]
structure EdSt (W : World) (b : Nat) (ks : List (Int × Int)) (wr : World) : Prop where
  km : KM wr b ks
  bel : Below W.heap.size W wr
theorem cells_in {w X : World} {b : Nat} {cs : Array Value} {t : TypeId} (h : w.heap[b]? = some (.cells cs t (0, 0))) (e : X.heap[b]? = w.heap[b]?) : X.heap[b]? = some (.cells cs t (0, 0)) := e.trans h
theorem did_size {d : Dx} (ok : d.Ok) : (didC d).size = 22 := by simp [didC, ok.rest]
theorem did_one {d : Dx} (ok : d.Ok) : (didC d).all (·.oneCell') = true := by
  have h4 : ∀ z, (Value.int .i64 z).oneCell' = true := fun _ => rfl
  have := ok.one
  simp only [didC, List.all_toArray', List.all_cons, h4, Bool.true_and]
  exact this
theorem did_0 (d : Dx) : (didC d)[0]? = some (.int .i64 d.th) := rfl
theorem did_2 (d : Dx) : (didC d)[2]? = some (.int .i64 d.fr) := rfl
theorem did_3 (d : Dx) : (didC d)[3]? = some (.int .i64 d.til) := rfl
theorem infoDid : (Tryz.prog.info? 105).map (·.size) = some 22 := by kernel_rfl

set_option maxRecDepth 100000 in
set_option maxHeartbeats 4000000 in
theorem edgesOf_any (p : Option Addr) (c : Nat) (ds : List Dx) (W : World) (h : DRd W p ds) (hok : ∀ d ∈ ds, d.Ok) (hl : ds.length ≤ 1048576) :
    Calls Tryz.prog 22 #[.slice p ds.length c] W fun e W' => e = .returned (.map (some W.heap.size)) ∧ KM W' W.heap.size (edgesL ds) ∧ Below W.heap.size W W' := by
  have HD := keepH h
  have HO := keepH hok
  have HI := keepH infoDid
  obtain ⟨n, hn⟩ : ∃ n, n = ds.length := ⟨_, rfl⟩
  obtain ⟨B, hB⟩ : ∃ B, B = W.heap.size := ⟨_, rfl⟩
  have E0 : EdSt W B [] (W.alloc (.map #[] 0)) := ⟨⟨#[], 0, by rw [hB]; exact heap_alloc_new _ _, fun e he => by simp at he, fun k => by simp⟩, below_alloc _ _⟩
  have HE := keepH E0
  have HN := keepH hn
  have HBB := keepH hB
  rw [← hn] at hl ⊢
  rw [← hB]
  clear h hok hn E0 hB
  have hmm := @run_makeMap Tryz.prog
  go_enter Tryz.func22, Tryz.ntmps22
  go_wp2_with fail
  rw [← HBB.out]
  go_loopw [9] (fun s wr => ∃ i : Nat, i ≤ n ∧ s = .int .i64 (i : Int) ∧ Hid (EdSt W B (edgesL (ds.take i)) wr)) (fun s _ => n - (intOf s).toNat)
  case atStart => exact ⟨0, by omega, rfl, by simpa [edgesL] using HE⟩
  case round =>
    obtain ⟨i, hi, rfl, HS⟩ := hrel
    by_cases hlt : i < n
    · have t1 : (i : Int) < (n : Int) := by omega
      have t0 : (0 : Int) ≤ (i : Int) := by omega
      obtain ⟨d, hd⟩ : ∃ d, ds[i]? = some d := ⟨ds[i]'(by have := HN.out; omega), List.getElem?_eq_getElem _⟩
      have ok := HO.out d (List.mem_of_getElem? hd)
      have hnx := edgesL_next hd
      obtain ⟨bk, off, rfl, hbk, hc⟩ := (HD.out.on HS.out.bel).get i d hd
      have hret := fun w => returned_any d ok w
      have hsz := did_size ok
      have hone := did_one ok
      have c0 := did_0 d
      have c2 := did_2 d
      have c3 := did_3 d
      obtain ⟨cs, hcs⟩ : ∃ cs, cs = didC d := ⟨_, rfl⟩
      rw [← hcs] at hc hret hsz hone c0 c2 c3
      have k1 : momOk (d.th, d.fr) := ⟨ok.th, ok.fr⟩
      have k2 : momOk (d.th, d.til) := ⟨ok.th, ok.til⟩
      have hon : edgesOne d = if 0 ≤ d.til then [(d.th, d.fr), (d.th, d.til)] else [(d.th, d.fr)] := rfl
      rw [hon] at hnx
      clear hon ok hd hcs
      obtain ⟨th, idx, fr, til, rest⟩ := d
      simp only at hret c0 c2 c3 k1 k2 hnx
      have HRG : Hid (wr.rangeAt bk (off + i * 22) cs.toList) := keepH (fun j u hj => hc j u (by simpa using hj))
      have HZ : Hid ((wr.alloc (.cells #[.int .i64 0, .int .i64 0, .int .i64 0, .int .i64 0, .int .u8 0, .int .u64 0, .int .u64 0, .int .u64 0, .int .u64 0, .bool false, .int .i64 0, .int .i64 0, .slice none 0 0, .int .u64 0, .int .u64 0, .int .i64 0, .bool false, .int .u64 0, .bool false, .int .u64 0, .slice none 0 0, .int .u64 0] 105)).heap[wr.heap.size]? = some (.cells #[.int .i64 0, .int .i64 0, .int .i64 0, .int .i64 0, .int .u8 0, .int .u64 0, .int .u64 0, .int .u64 0, .int .u64 0, .bool false, .int .i64 0, .int .i64 0, .slice none 0 0, .int .u64 0, .int .u64 0, .int .i64 0, .bool false, .int .u64 0, .bool false, .int .u64 0, .slice none 0 0, .int .u64 0] 105 (0, 0))) := keepH (heap_alloc_new _ _)
      have HONE := keepH hone
      have HSZ := keepH hsz
      obtain ⟨w2, hw2⟩ : ∃ w2, w2 = wr.alloc (.cells cs 105) := ⟨_, rfl⟩
      have C2 : Below wr.heap.size wr w2 := by rw [hw2]; exact below_alloc _ _
      have X2 : w2.heap[wr.heap.size]? = some (.cells cs 105 (0, 0)) := by rw [hw2]; exact heap_alloc_new _ _
      have hbl : B < wr.heap.size := HS.out.km.lt
      obtain ⟨w3, hp3, km3, bl3, sz3, fr3⟩ := km_put (HS.out.km.on C2) (th, fr) k1
      have X3 := cells_in X2 (fr3 wr.heap.size (by omega))
      have E3 : EdSt W B (edgesL (ds.take i) ++ [(th, fr)]) w3 := ⟨km3, (below_chain HS.out.bel C2).trans (bl3 _ (by have := HBB.out; omega))⟩
      have S3 : wr.heap.size < w3.heap.size := by rw [sz3, hw2]; simp
      have q3 := hret w3
      simp only [momV] at hp3
      have HE3 := keepH E3
      have HX3 := keepH X3
      have HW2 := keepH hw2
      have HNX := keepH hnx
      have HS3 := keepH S3
      have e0 := (cell_of X2 0).trans c0
      have e2 := (cell_of X2 2).trans c2
      have e3 := (cell_of X2 3).trans c3
      clear hnx hc C2 X2 km3 bl3 sz3 fr3 X3 E3 hret hw2 hone hsz S3
      by_cases htl : 0 ≤ til
      · have g : decide ((0 : Int) ≤ til) = true := by simpa using htl
        have HNX2 : Hid (edgesL (ds.take (i + 1)) = (edgesL (ds.take i) ++ [(th, fr)]) ++ [(th, til)]) := by
          refine keepH ?_
          rw [HNX.out, if_pos htl]
          simp
        rw [g] at q3
        have HQ3 := keepH q3
        clear g htl q3
        go_wp2_with (first
          | (refine wpList_load_mid rfl 105 _ rfl bk (off + i * 22) rfl cs.toList _ HRG.out Tryz.underlying105 rfl (by rw [HI.out]; simp [HSZ.out]) ?_; rw [Array.toArray_toList])
          | (refine wpList_store_row rfl 105 _ _ rfl wr.heap.size cs rfl rfl 105 #[.int .i64 0, .int .i64 0, .int .i64 0, .int .i64 0, .int .u8 0, .int .u64 0, .int .u64 0, .int .u64 0, .int .u64 0, .bool false, .int .i64 0, .int .i64 0, .slice none 0 0, .int .u64 0, .int .u64 0, .int .i64 0, .bool false, .int .u64 0, .bool false, .int .u64 0, .slice none 0 0, .int .u64 0] HZ.out (by rw [HI.out]; simp [HSZ.out]) (by rw [HSZ.out]; rfl) HONE.out ?_; rw [World.setRow_alloc_new, ← HW2.out])
          | (refine wpList_load_row rfl 105 _ rfl wr.heap.size rfl 105 cs (0, 0) _ HX3.out Tryz.underlying105 rfl (by rw [HI.out]; simp [HSZ.out]) ?_)
          | fail)
        refine HQ3.out.mono ?_
        rintro e w4 ⟨rfl, C4⟩
        have X4 : w4.heap[wr.heap.size]? = _ := (C4.block _ HS3.out).trans HX3.out
        have f0 := (cell_of X4 0).trans c0
        have f3 := (cell_of X4 3).trans c3
        obtain ⟨w5, hp5, km5, bl5, sz5, fr5⟩ := km_put (HE3.out.km.on C4) (th, til) k2
        have E6 : EdSt W B (edgesL (ds.take (i + 1))) w5 := by
          rw [HNX2.out]
          exact ⟨km5, (below_chain HE3.out.bel C4).trans (bl5 _ (by have := HBB.out; omega))⟩
        have HE6 := keepH E6
        simp only [momV] at hp5
        clear X4 C4 km5 bl5 sz5 fr5 E6 hp3 c0 c2 c3 e0 e2 e3
        go_wp2_with fail
        go_roundw
        case rel => exact ⟨i + 1, by omega, by first | rfl | go_num, HE6⟩
        case measure => simp [intOf]; omega
      · have g : decide ((0 : Int) ≤ til) = false := by simpa using htl
        have HNX2 : Hid (edgesL (ds.take (i + 1)) = edgesL (ds.take i) ++ [(th, fr)]) := by
          refine keepH ?_
          rw [HNX.out, if_neg htl]
        rw [g] at q3
        have HQ3 := keepH q3
        clear g htl q3
        go_wp2_with (first
          | (refine wpList_load_mid rfl 105 _ rfl bk (off + i * 22) rfl cs.toList _ HRG.out Tryz.underlying105 rfl (by rw [HI.out]; simp [HSZ.out]) ?_; rw [Array.toArray_toList])
          | (refine wpList_store_row rfl 105 _ _ rfl wr.heap.size cs rfl rfl 105 #[.int .i64 0, .int .i64 0, .int .i64 0, .int .i64 0, .int .u8 0, .int .u64 0, .int .u64 0, .int .u64 0, .int .u64 0, .bool false, .int .i64 0, .int .i64 0, .slice none 0 0, .int .u64 0, .int .u64 0, .int .i64 0, .bool false, .int .u64 0, .bool false, .int .u64 0, .slice none 0 0, .int .u64 0] HZ.out (by rw [HI.out]; simp [HSZ.out]) (by rw [HSZ.out]; rfl) HONE.out ?_; rw [World.setRow_alloc_new, ← HW2.out])
          | (refine wpList_load_row rfl 105 _ rfl wr.heap.size rfl 105 cs (0, 0) _ HX3.out Tryz.underlying105 rfl (by rw [HI.out]; simp [HSZ.out]) ?_)
          | fail)
        refine HQ3.out.mono ?_
        rintro e w4 ⟨rfl, C4⟩
        have E4 : EdSt W B (edgesL (ds.take (i + 1))) w4 := by
          rw [HNX2.out]
          exact ⟨HE3.out.km.on C4, below_chain HE3.out.bel C4⟩
        have HE4 := keepH E4
        clear C4 E4 hp3 c0 c2 c3 e0 e2 e3
        go_wp2_with fail
        go_roundw
        case rel => exact ⟨i + 1, by omega, by first | rfl | go_num, HE4⟩
        case measure => simp [intOf]; omega
    · obtain rfl : i = n := by omega
      have t1 : ¬ (i : Int) < (i : Int) := by omega
      go_wp2_with fail
      go_ret
      have hf := HS.out
      rw [HN.out, List.take_length] at hf
      have hbl := hf.bel
      rw [← HBB.out] at hbl
      exact ⟨by simp, hf.km, hbl⟩
end Go.Proofs.YtjodechhnobkhaaGreatDoor
