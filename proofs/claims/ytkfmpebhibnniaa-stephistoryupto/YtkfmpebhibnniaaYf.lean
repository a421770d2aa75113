/- The document's Make: a plan's step on the document's memory. -/
import Derived.Test.YtkfmpebhibnniaaRMemX
import Derived.Test.YtkfmpebhibnniaaRMemW
import Derived.Test.YtkfmpebhibnniaaYa
namespace Go.Proofs.Ytkfmpebhibnniaa
open Go.RowKit Go.Shelf
set_option linter.unusedVariables false

/-- The document's memory with its bare trace. -/
def RM (W : World) (R : Nat → Prop) (nm most next : Nat) (cs : List Nat) (t : List Acc) : Prop := ∃ l, RMem W R nm most next cs l ∧ l.map Acc.bare = t
theorem RM.chg {W W' : World} {R G : Nat → Prop} {nm most next : Nat} {cs : List Nat} {t : List Acc} (h : RM W R nm most next cs t) (hc : Chg G W W') (hd : ∀ k, R k → ¬ G k) : RM W' R nm most next cs t := by
  obtain ⟨l, h1, h2⟩ := h
  exact ⟨l, h1.chg hc hd, h2⟩
theorem RM.lt {W : World} {R : Nat → Prop} {nm most next : Nat} {cs : List Nat} {t : List Acc} (h : RM W R nm most next cs t) (k : Nat) (hk : R k) : k < W.heap.size := by
  obtain ⟨l, h1, h2⟩ := h
  exact h1.lt k hk
theorem mkM_next {most : Nat} {m : Mu} {d : DoP} (h : m.next ≤ most) : (mkM most m d).next ≤ most := by
  unfold mkM
  split
  · exact h
  split
  · exact h
  split
  · exact h
  split
  · show alNext most m.next d.vals.length ≤ most
    unfold alNext
    split
    · rename_i q; have := q.2; omega
    · exact h
  · exact h
theorem runM_next {most : Nat} : ∀ (ds : List DoP) {m : Mu}, m.next ≤ most → (runM most m ds).next ≤ most
  | [], m, h => h
  | d :: r, m, h => by
    show (runM most (mkM most m d) r).next ≤ most
    exact runM_next r (mkM_next h)
theorem mF_next {most : Nat} {m0 : Mu} (l : List PlP) (h : m0.next ≤ most) : ∀ i, (mF most m0 l i).next ≤ most := by
  intro i
  induction i with
  | zero => exact h
  | succ i ih =>
    simp only [mF]
    split
    · exact runM_next _ ih
    · exact ih
set_option maxRecDepth 100000 in
set_option maxHeartbeats 4000000 in
theorem mk_1 {W : World} {R : Nat → Prop} {nm most next : Nat} {cs : List Nat} {t : List Acc} (H : RM W R nm most next cs t) (hnx : next ≤ most) (hl : t.length < 1099511627776) {d : DoP} (hd : d.Ok) (hk : d.kd = 1) {vp : Option Addr} {vc : Nat} (hr : Reads W vp d.vals) (hap : ∀ ad, vp = some ad → d.vals ≠ [] → ¬ R ad.block ∧ ad.block < W.heap.size) (th : Int) :
    Calls Try.prog 15 #[.pointer (some ⟨nm, 0, none⟩), .int .i64 th, .agg #[.int .u8 d.kd, .int .u64 (d.ad : Int), .int .u64 (d.a : Int), .int .u64 (d.b : Int), .slice vp d.vals.length vc]] W fun e W' => e = .returned (.int .u64 (mkR most ⟨next, cs⟩ d : Int)) ∧ ∃ R', RM W' R' nm most (mkM most ⟨next, cs⟩ d).next (mkM most ⟨next, cs⟩ d).cs (t ++ [mkA th most ⟨next, cs⟩ d]) ∧ Goes W W' R R' := by
  obtain ⟨kd, ad, a, b, vals⟩ := d
  simp only at hk hr hap
  subst hk
  obtain ⟨o1, o2, o3, o4, o5, o6⟩ := hd
  simp only at o1 o2 o3 o4 o5 o6
  obtain ⟨l, hM, hT⟩ := H
  have hll : l.length = t.length := by rw [← hT]; simp
  obtain ⟨w0, hw0⟩ : ∃ w0, w0 = W.alloc (.cells #[.int .u8 1, .int .u64 (ad : Int), .int .u64 (a : Int), .int .u64 (b : Int), .slice vp vals.length vc] 53) := ⟨_, rfl⟩
  have hC0 : Chg (fun _ => False) W w0 := by rw [hw0]; exact (Chg.refl _ _).alloc _
  have hb : w0.heap[W.heap.size]? = some (.cells #[.int .u8 1, .int .u64 (ad : Int), .int .u64 (a : Int), .int .u64 (b : Int), .slice vp vals.length vc] 53 (0, 0)) := by rw [hw0]; exact heap_alloc_new _ _
  have c0 : w0.cell? ⟨W.heap.size, 0, none⟩ = some (.int .u8 1) := cell_of hb 0
  have c1 : w0.cell? ⟨W.heap.size, 1, none⟩ = some (.int .u64 (ad : Int)) := cell_of hb 1
  have c2 : w0.cell? ⟨W.heap.size, 2, none⟩ = some (.int .u64 (a : Int)) := cell_of hb 2
  have c3 : w0.cell? ⟨W.heap.size, 3, none⟩ = some (.int .u64 (b : Int)) := cell_of hb 3
  have c4 : w0.cell? ⟨W.heap.size, 4, none⟩ = some (.slice vp vals.length vc) := cell_of hb 4
  have HM := keepH (hM.chg hC0 (fun k _ x => x))
  have HT := keepH hT
  have HL : Hid (l.length < 1099511627776) := by show _ < _; omega
  have HGH : Hid (∀ (w1 : World) (R' : Nat → Prop), Goes w0 w1 R R' → Goes W w1 R R') := fun w1 R' g => ⟨hC0.trans g.chg (fun _ _ x => x.elim) (fun _ _ x => x), fun k x => (g.new k x).elim .inl (fun y => .inr (Nat.le_trans hC0.size y))⟩
  have HR := keepH (hr.chg hC0 (fun _ _ _ x => x))
  clear hM hT hll hC0 hb hr
  unfold mkR mkM mkA
  simp only
  go_enter Try.func15, Try.ntmps15
  go_upto_region 1 with fail
  rw [← hw0]
  clear hw0
  try simp only [Int.reduceEq, if_true, if_false]
  have HR2 := keepH (r_load nm most next ad th R cs l w0 HM.out HL.out o2)
  go_wp2_with fail
  refine HR2.out.mono ?_
  rintro e w2 ⟨rfl, R2, M2, G2⟩
  have HM2 := keepH M2
  have HG2 := keepH (HGH.out _ _ G2)
  clear M2 G2
  go_wp2_with fail
  go_ret
  exact ⟨by simp, R2, ⟨l ++ [_], HM2.out, by rw [List.map_append, HT.out]; rfl⟩, HG2.out⟩
set_option maxRecDepth 100000 in
set_option maxHeartbeats 4000000 in
theorem mk_2 {W : World} {R : Nat → Prop} {nm most next : Nat} {cs : List Nat} {t : List Acc} (H : RM W R nm most next cs t) (hnx : next ≤ most) (hl : t.length < 1099511627776) {d : DoP} (hd : d.Ok) (hk : d.kd = 2) {vp : Option Addr} {vc : Nat} (hr : Reads W vp d.vals) (hap : ∀ ad, vp = some ad → d.vals ≠ [] → ¬ R ad.block ∧ ad.block < W.heap.size) (th : Int) :
    Calls Try.prog 15 #[.pointer (some ⟨nm, 0, none⟩), .int .i64 th, .agg #[.int .u8 d.kd, .int .u64 (d.ad : Int), .int .u64 (d.a : Int), .int .u64 (d.b : Int), .slice vp d.vals.length vc]] W fun e W' => e = .returned (.int .u64 (mkR most ⟨next, cs⟩ d : Int)) ∧ ∃ R', RM W' R' nm most (mkM most ⟨next, cs⟩ d).next (mkM most ⟨next, cs⟩ d).cs (t ++ [mkA th most ⟨next, cs⟩ d]) ∧ Goes W W' R R' := by
  obtain ⟨kd, ad, a, b, vals⟩ := d
  simp only at hk hr hap
  subst hk
  obtain ⟨o1, o2, o3, o4, o5, o6⟩ := hd
  simp only at o1 o2 o3 o4 o5 o6
  obtain ⟨l, hM, hT⟩ := H
  have hll : l.length = t.length := by rw [← hT]; simp
  obtain ⟨w0, hw0⟩ : ∃ w0, w0 = W.alloc (.cells #[.int .u8 2, .int .u64 (ad : Int), .int .u64 (a : Int), .int .u64 (b : Int), .slice vp vals.length vc] 53) := ⟨_, rfl⟩
  have hC0 : Chg (fun _ => False) W w0 := by rw [hw0]; exact (Chg.refl _ _).alloc _
  have hb : w0.heap[W.heap.size]? = some (.cells #[.int .u8 2, .int .u64 (ad : Int), .int .u64 (a : Int), .int .u64 (b : Int), .slice vp vals.length vc] 53 (0, 0)) := by rw [hw0]; exact heap_alloc_new _ _
  have c0 : w0.cell? ⟨W.heap.size, 0, none⟩ = some (.int .u8 2) := cell_of hb 0
  have c1 : w0.cell? ⟨W.heap.size, 1, none⟩ = some (.int .u64 (ad : Int)) := cell_of hb 1
  have c2 : w0.cell? ⟨W.heap.size, 2, none⟩ = some (.int .u64 (a : Int)) := cell_of hb 2
  have c3 : w0.cell? ⟨W.heap.size, 3, none⟩ = some (.int .u64 (b : Int)) := cell_of hb 3
  have c4 : w0.cell? ⟨W.heap.size, 4, none⟩ = some (.slice vp vals.length vc) := cell_of hb 4
  have HM := keepH (hM.chg hC0 (fun k _ x => x))
  have HT := keepH hT
  have HL : Hid (l.length < 1099511627776) := by show _ < _; omega
  have HGH : Hid (∀ (w1 : World) (R' : Nat → Prop), Goes w0 w1 R R' → Goes W w1 R R') := fun w1 R' g => ⟨hC0.trans g.chg (fun _ _ x => x.elim) (fun _ _ x => x), fun k x => (g.new k x).elim .inl (fun y => .inr (Nat.le_trans hC0.size y))⟩
  have HR := keepH (hr.chg hC0 (fun _ _ _ x => x))
  clear hM hT hll hC0 hb hr
  unfold mkR mkM mkA
  simp only
  go_enter Try.func15, Try.ntmps15
  go_upto_region 1 with fail
  rw [← hw0]
  clear hw0
  try simp only [Int.reduceEq, if_true, if_false]
  have HR2 := keepH (r_store nm most next ad a th R cs l w0 HM.out HL.out o2 o3)
  go_wp2_with fail
  refine HR2.out.mono ?_
  rintro e w2 ⟨rfl, R2, M2, G2⟩
  have HM2 := keepH M2
  have HG2 := keepH (HGH.out _ _ G2)
  clear M2 G2
  go_wp2_with fail
  go_ret
  exact ⟨by simp, R2, ⟨l ++ [_], HM2.out, by rw [List.map_append, HT.out]; rfl⟩, HG2.out⟩
set_option maxRecDepth 100000 in
set_option maxHeartbeats 4000000 in
theorem mk_3 {W : World} {R : Nat → Prop} {nm most next : Nat} {cs : List Nat} {t : List Acc} (H : RM W R nm most next cs t) (hnx : next ≤ most) (hl : t.length < 1099511627776) {d : DoP} (hd : d.Ok) (hk : d.kd = 3) {vp : Option Addr} {vc : Nat} (hr : Reads W vp d.vals) (hap : ∀ ad, vp = some ad → d.vals ≠ [] → ¬ R ad.block ∧ ad.block < W.heap.size) (th : Int) :
    Calls Try.prog 15 #[.pointer (some ⟨nm, 0, none⟩), .int .i64 th, .agg #[.int .u8 d.kd, .int .u64 (d.ad : Int), .int .u64 (d.a : Int), .int .u64 (d.b : Int), .slice vp d.vals.length vc]] W fun e W' => e = .returned (.int .u64 (mkR most ⟨next, cs⟩ d : Int)) ∧ ∃ R', RM W' R' nm most (mkM most ⟨next, cs⟩ d).next (mkM most ⟨next, cs⟩ d).cs (t ++ [mkA th most ⟨next, cs⟩ d]) ∧ Goes W W' R R' := by
  obtain ⟨kd, ad, a, b, vals⟩ := d
  simp only at hk hr hap
  subst hk
  obtain ⟨o1, o2, o3, o4, o5, o6⟩ := hd
  simp only at o1 o2 o3 o4 o5 o6
  obtain ⟨l, hM, hT⟩ := H
  have hll : l.length = t.length := by rw [← hT]; simp
  obtain ⟨w0, hw0⟩ : ∃ w0, w0 = W.alloc (.cells #[.int .u8 3, .int .u64 (ad : Int), .int .u64 (a : Int), .int .u64 (b : Int), .slice vp vals.length vc] 53) := ⟨_, rfl⟩
  have hC0 : Chg (fun _ => False) W w0 := by rw [hw0]; exact (Chg.refl _ _).alloc _
  have hb : w0.heap[W.heap.size]? = some (.cells #[.int .u8 3, .int .u64 (ad : Int), .int .u64 (a : Int), .int .u64 (b : Int), .slice vp vals.length vc] 53 (0, 0)) := by rw [hw0]; exact heap_alloc_new _ _
  have c0 : w0.cell? ⟨W.heap.size, 0, none⟩ = some (.int .u8 3) := cell_of hb 0
  have c1 : w0.cell? ⟨W.heap.size, 1, none⟩ = some (.int .u64 (ad : Int)) := cell_of hb 1
  have c2 : w0.cell? ⟨W.heap.size, 2, none⟩ = some (.int .u64 (a : Int)) := cell_of hb 2
  have c3 : w0.cell? ⟨W.heap.size, 3, none⟩ = some (.int .u64 (b : Int)) := cell_of hb 3
  have c4 : w0.cell? ⟨W.heap.size, 4, none⟩ = some (.slice vp vals.length vc) := cell_of hb 4
  have HM := keepH (hM.chg hC0 (fun k _ x => x))
  have HT := keepH hT
  have HL : Hid (l.length < 1099511627776) := by show _ < _; omega
  have HGH : Hid (∀ (w1 : World) (R' : Nat → Prop), Goes w0 w1 R R' → Goes W w1 R R') := fun w1 R' g => ⟨hC0.trans g.chg (fun _ _ x => x.elim) (fun _ _ x => x), fun k x => (g.new k x).elim .inl (fun y => .inr (Nat.le_trans hC0.size y))⟩
  have HR := keepH (hr.chg hC0 (fun _ _ _ x => x))
  clear hM hT hll hC0 hb hr
  cases hc : casOk most cs ad a with
  | true =>
    have HR2 := keepH (r_cas nm most next ad a b th R cs l w0 HM.out HL.out o2 o4)
    rw [hc] at HR2
    unfold mkR mkM mkA
    simp only [hc, if_true]
    clear hc
    go_enter Try.func15, Try.ntmps15
    go_upto_region 1 with fail
    rw [← hw0]
    clear hw0
    try simp only [Int.reduceEq, if_true, if_false]
    go_wp2_with fail
    refine HR2.out.mono ?_
    rintro e w2 ⟨rfl, R2, M2, G2⟩
    have HM2 := keepH M2
    have HG2 := keepH (HGH.out _ _ G2)
    clear M2 G2
    go_wp2_with fail
    go_ret
    exact ⟨by simp, R2, ⟨l ++ [_], HM2.out, by rw [List.map_append, HT.out]; rfl⟩, HG2.out⟩
  | false =>
    have HR2 := keepH (r_cas nm most next ad a b th R cs l w0 HM.out HL.out o2 o4)
    rw [hc] at HR2
    unfold mkR mkM mkA
    simp only [hc, Bool.false_eq_true, if_false]
    clear hc
    go_enter Try.func15, Try.ntmps15
    go_upto_region 1 with fail
    rw [← hw0]
    clear hw0
    try simp only [Int.reduceEq, if_true, if_false]
    go_wp2_with fail
    refine HR2.out.mono ?_
    rintro e w2 ⟨rfl, R2, M2, G2⟩
    have HM2 := keepH M2
    have HG2 := keepH (HGH.out _ _ G2)
    clear M2 G2
    go_wp2_with fail
    go_ret
    exact ⟨by simp, R2, ⟨l ++ [_], HM2.out, by rw [List.map_append, HT.out]; rfl⟩, HG2.out⟩
set_option maxRecDepth 100000 in
set_option maxHeartbeats 4000000 in
theorem mk_4 {W : World} {R : Nat → Prop} {nm most next : Nat} {cs : List Nat} {t : List Acc} (H : RM W R nm most next cs t) (hnx : next ≤ most) (hl : t.length < 1099511627776) {d : DoP} (hd : d.Ok) (hk : d.kd = 4) {vp : Option Addr} {vc : Nat} (hr : Reads W vp d.vals) (hap : ∀ ad, vp = some ad → d.vals ≠ [] → ¬ R ad.block ∧ ad.block < W.heap.size) (th : Int) :
    Calls Try.prog 15 #[.pointer (some ⟨nm, 0, none⟩), .int .i64 th, .agg #[.int .u8 d.kd, .int .u64 (d.ad : Int), .int .u64 (d.a : Int), .int .u64 (d.b : Int), .slice vp d.vals.length vc]] W fun e W' => e = .returned (.int .u64 (mkR most ⟨next, cs⟩ d : Int)) ∧ ∃ R', RM W' R' nm most (mkM most ⟨next, cs⟩ d).next (mkM most ⟨next, cs⟩ d).cs (t ++ [mkA th most ⟨next, cs⟩ d]) ∧ Goes W W' R R' := by
  obtain ⟨kd, ad, a, b, vals⟩ := d
  simp only at hk hr hap
  subst hk
  obtain ⟨o1, o2, o3, o4, o5, o6⟩ := hd
  simp only at o1 o2 o3 o4 o5 o6
  obtain ⟨l, hM, hT⟩ := H
  have hll : l.length = t.length := by rw [← hT]; simp
  obtain ⟨w0, hw0⟩ : ∃ w0, w0 = W.alloc (.cells #[.int .u8 4, .int .u64 (ad : Int), .int .u64 (a : Int), .int .u64 (b : Int), .slice vp vals.length vc] 53) := ⟨_, rfl⟩
  have hC0 : Chg (fun _ => False) W w0 := by rw [hw0]; exact (Chg.refl _ _).alloc _
  have hb : w0.heap[W.heap.size]? = some (.cells #[.int .u8 4, .int .u64 (ad : Int), .int .u64 (a : Int), .int .u64 (b : Int), .slice vp vals.length vc] 53 (0, 0)) := by rw [hw0]; exact heap_alloc_new _ _
  have c0 : w0.cell? ⟨W.heap.size, 0, none⟩ = some (.int .u8 4) := cell_of hb 0
  have c1 : w0.cell? ⟨W.heap.size, 1, none⟩ = some (.int .u64 (ad : Int)) := cell_of hb 1
  have c2 : w0.cell? ⟨W.heap.size, 2, none⟩ = some (.int .u64 (a : Int)) := cell_of hb 2
  have c3 : w0.cell? ⟨W.heap.size, 3, none⟩ = some (.int .u64 (b : Int)) := cell_of hb 3
  have c4 : w0.cell? ⟨W.heap.size, 4, none⟩ = some (.slice vp vals.length vc) := cell_of hb 4
  have HM := keepH (hM.chg hC0 (fun k _ x => x))
  have HT := keepH hT
  have HL : Hid (l.length < 1099511627776) := by show _ < _; omega
  have HGH : Hid (∀ (w1 : World) (R' : Nat → Prop), Goes w0 w1 R R' → Goes W w1 R R') := fun w1 R' g => ⟨hC0.trans g.chg (fun _ _ x => x.elim) (fun _ _ x => x), fun k x => (g.new k x).elim .inl (fun y => .inr (Nat.le_trans hC0.size y))⟩
  have HR := keepH (hr.chg hC0 (fun _ _ _ x => x))
  clear hM hT hll hC0 hb hr
  unfold mkR mkM mkA
  simp only
  go_enter Try.func15, Try.ntmps15
  go_upto_region 1 with fail
  rw [← hw0]
  clear hw0
  try simp only [Int.reduceEq, if_true, if_false]
  have HR2 := keepH (r_add nm most next ad a th R cs l w0 HM.out HL.out o2)
  go_wp2_with fail
  refine HR2.out.mono ?_
  rintro e w2 ⟨rfl, R2, M2, G2⟩
  have HM2 := keepH M2
  have HG2 := keepH (HGH.out _ _ G2)
  clear M2 G2
  go_wp2_with fail
  go_ret
  exact ⟨by simp, R2, ⟨l ++ [_], HM2.out, by rw [List.map_append, HT.out]; rfl⟩, HG2.out⟩
set_option maxRecDepth 100000 in
set_option maxHeartbeats 4000000 in
theorem mk_5 {W : World} {R : Nat → Prop} {nm most next : Nat} {cs : List Nat} {t : List Acc} (H : RM W R nm most next cs t) (hnx : next ≤ most) (hl : t.length < 1099511627776) {d : DoP} (hd : d.Ok) (hk : d.kd = 5) {vp : Option Addr} {vc : Nat} (hr : Reads W vp d.vals) (hap : ∀ ad, vp = some ad → d.vals ≠ [] → ¬ R ad.block ∧ ad.block < W.heap.size) (th : Int) :
    Calls Try.prog 15 #[.pointer (some ⟨nm, 0, none⟩), .int .i64 th, .agg #[.int .u8 d.kd, .int .u64 (d.ad : Int), .int .u64 (d.a : Int), .int .u64 (d.b : Int), .slice vp d.vals.length vc]] W fun e W' => e = .returned (.int .u64 (mkR most ⟨next, cs⟩ d : Int)) ∧ ∃ R', RM W' R' nm most (mkM most ⟨next, cs⟩ d).next (mkM most ⟨next, cs⟩ d).cs (t ++ [mkA th most ⟨next, cs⟩ d]) ∧ Goes W W' R R' := by
  obtain ⟨kd, ad, a, b, vals⟩ := d
  simp only at hk hr hap
  subst hk
  obtain ⟨o1, o2, o3, o4, o5, o6⟩ := hd
  simp only at o1 o2 o3 o4 o5 o6
  obtain ⟨l, hM, hT⟩ := H
  have hll : l.length = t.length := by rw [← hT]; simp
  obtain ⟨w0, hw0⟩ : ∃ w0, w0 = W.alloc (.cells #[.int .u8 5, .int .u64 (ad : Int), .int .u64 (a : Int), .int .u64 (b : Int), .slice vp vals.length vc] 53) := ⟨_, rfl⟩
  have hC0 : Chg (fun _ => False) W w0 := by rw [hw0]; exact (Chg.refl _ _).alloc _
  have hb : w0.heap[W.heap.size]? = some (.cells #[.int .u8 5, .int .u64 (ad : Int), .int .u64 (a : Int), .int .u64 (b : Int), .slice vp vals.length vc] 53 (0, 0)) := by rw [hw0]; exact heap_alloc_new _ _
  have c0 : w0.cell? ⟨W.heap.size, 0, none⟩ = some (.int .u8 5) := cell_of hb 0
  have c1 : w0.cell? ⟨W.heap.size, 1, none⟩ = some (.int .u64 (ad : Int)) := cell_of hb 1
  have c2 : w0.cell? ⟨W.heap.size, 2, none⟩ = some (.int .u64 (a : Int)) := cell_of hb 2
  have c3 : w0.cell? ⟨W.heap.size, 3, none⟩ = some (.int .u64 (b : Int)) := cell_of hb 3
  have c4 : w0.cell? ⟨W.heap.size, 4, none⟩ = some (.slice vp vals.length vc) := cell_of hb 4
  have HM := keepH (hM.chg hC0 (fun k _ x => x))
  have HT := keepH hT
  have HL : Hid (l.length < 1099511627776) := by show _ < _; omega
  have HGH : Hid (∀ (w1 : World) (R' : Nat → Prop), Goes w0 w1 R R' → Goes W w1 R R') := fun w1 R' g => ⟨hC0.trans g.chg (fun _ _ x => x.elim) (fun _ _ x => x), fun k x => (g.new k x).elim .inl (fun y => .inr (Nat.le_trans hC0.size y))⟩
  have HR := keepH (hr.chg hC0 (fun _ _ _ x => x))
  clear hM hT hll hC0 hb hr
  unfold mkR mkM mkA
  simp only
  go_enter Try.func15, Try.ntmps15
  go_upto_region 1 with fail
  rw [← hw0]
  clear hw0
  try simp only [Int.reduceEq, if_true, if_false]
  have HR2 := keepH (r_alloc nm most next th vp vc vals R cs l w0 HM.out hnx HL.out HR.out (fun q e n => (hap q e n).1) o5 (by omega))
  go_wp2_with fail
  refine HR2.out.mono ?_
  rintro e w2 ⟨rfl, R2, vs2, M2, G2⟩
  have HM2 := keepH M2
  have HG2 := keepH (HGH.out _ _ G2)
  clear M2 G2
  go_wp2_with fail
  go_ret
  exact ⟨by simp, R2, ⟨l ++ [_], HM2.out, by rw [List.map_append, HT.out]; rfl⟩, HG2.out⟩
theorem mk_any {W : World} {R : Nat → Prop} {nm most next : Nat} {cs : List Nat} {t : List Acc} (H : RM W R nm most next cs t) (hnx : next ≤ most) (hl : t.length < 1099511627776) {d : DoP} (hd : d.Ok) (hk : isA d = true) {vp : Option Addr} {vc : Nat} (hr : Reads W vp d.vals) (hap : ∀ ad, vp = some ad → d.vals ≠ [] → ¬ R ad.block ∧ ad.block < W.heap.size) (th : Int) :
    Calls Try.prog 15 #[.pointer (some ⟨nm, 0, none⟩), .int .i64 th, .agg #[.int .u8 d.kd, .int .u64 (d.ad : Int), .int .u64 (d.a : Int), .int .u64 (d.b : Int), .slice vp d.vals.length vc]] W fun e W' => e = .returned (.int .u64 (mkR most ⟨next, cs⟩ d : Int)) ∧ ∃ R', RM W' R' nm most (mkM most ⟨next, cs⟩ d).next (mkM most ⟨next, cs⟩ d).cs (t ++ [mkA th most ⟨next, cs⟩ d]) ∧ Goes W W' R R' := by
  have h1 : 1 ≤ d.kd ∧ d.kd ≤ 5 := by simpa [isA] using hk
  rcases (show d.kd = 1 ∨ d.kd = 2 ∨ d.kd = 3 ∨ d.kd = 4 ∨ d.kd = 5 by omega) with e | e | e | e | e
  · exact mk_1 H hnx hl hd e hr hap th
  · exact mk_2 H hnx hl hd e hr hap th
  · exact mk_3 H hnx hl hd e hr hap th
  · exact mk_4 H hnx hl hd e hr hap th
  · exact mk_5 H hnx hl hd e hr hap th
end Go.Proofs.Ytkfmpebhibnniaa
