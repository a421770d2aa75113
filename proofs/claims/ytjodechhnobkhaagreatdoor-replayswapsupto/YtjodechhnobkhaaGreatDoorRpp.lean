/- goThrough and Check, of a trace whose accesses are right or not, on a memory of so many cells. (mkRpp.py) -/
import Derived.Test.YtjodechhnobkhaaGreatDoorRpo
namespace Go.Proofs.YtjodechhnobkhaaGreatDoor
open Go.RowKit Go.Shelf
set_option linter.unusedVariables false

def msBad (most : Nat) : Ms → List Ax → Nat
  | _, [] => 0
  | s, x :: r => if msTell most s x then 1 + msBad most (msStep most s x) r else 0
def msEnd (most : Nat) : Ms → List Ax → Ms
  | s, [] => s
  | s, x :: r => msEnd most (msStep most s x) r
def msAt (most : Nat) (s : Ms) (xs : List Ax) (i : Nat) : Ms := msEnd most s (xs.take i)
theorem msEnd_snoc (most : Nat) : ∀ (xs : List Ax) (s : Ms) (x : Ax), msEnd most s (xs ++ [x]) = msStep most (msEnd most s xs) x
  | [], s, x => rfl
  | y :: r, s, x => by simp only [List.cons_append, msEnd]; exact msEnd_snoc most r _ x
theorem msAt_succ {most : Nat} {s : Ms} {xs : List Ax} {i : Nat} {x : Ax} (hx : xs[i]? = some x) : msAt most s xs (i + 1) = msStep most (msAt most s xs i) x := by
  unfold msAt
  rw [List.take_add_one, hx]
  exact msEnd_snoc _ _ _ _
theorem msBad_at {most : Nat} : ∀ (xs : List Ax) (s : Ms) (i : Nat), i ≤ xs.length → (∀ j x, j < i → xs[j]? = some x → msTell most (msAt most s xs j) x = true) → msBad most s xs = i + msBad most (msAt most s xs i) (xs.drop i)
  | xs, s, 0, _, _ => by simp [msAt, msEnd]
  | [], s, i + 1, h, _ => by simp at h
  | x :: r, s, i + 1, h, ht => by
    have h0 := ht 0 x (by omega) rfl
    have e0 : msAt most s (x :: r) 0 = s := rfl
    rw [e0] at h0
    have ih := msBad_at r (msStep most s x) i (by simpa using h) (fun j y hj hy => by
      have := ht (j + 1) y (by omega) (by simpa using hy)
      exact this)
    rw [msBad, if_pos h0, ih]
    show 1 + (i + msBad most (msAt most (msStep most s x) r i) (r.drop i)) = i + 1 + msBad most (msAt most (msStep most s x) r i) (r.drop i)
    omega
theorem msBad_is {most : Nat} {xs : List Ax} {s : Ms} {i : Nat} {x : Ax} (hx : xs[i]? = some x) (ht : ∀ j y, j < i → xs[j]? = some y → msTell most (msAt most s xs j) y = true) (hn : msTell most (msAt most s xs i) x = false) : msBad most s xs = i := by
  obtain ⟨hi, rfl⟩ := List.getElem?_eq_some_iff.mp hx
  rw [msBad_at xs s i (by omega) ht, List.drop_eq_getElem_cons hi, msBad, hn]
  simp
theorem msBad_all {most : Nat} {xs : List Ax} {s : Ms} (ht : ∀ j y, j < xs.length → xs[j]? = some y → msTell most (msAt most s xs j) y = true) : msBad most s xs = xs.length := by
  rw [msBad_at xs s xs.length (Nat.le_refl _) ht, List.drop_length, msBad]
  rfl

abbrev retC : Array Value := #[.nilFunc, .func (.func 51) #[] #[], .func (.func 53) #[] #[], .func (.func 55) #[] #[], .func (.func 57) #[] #[], .func (.func 59) #[] #[]]
def IsRet (W : World) (rb : Nat) : Prop := W.heap[rb]? = some (.cells retC 128 (0, 0))
set_option maxRecDepth 100000 in
theorem f_retries (W : World) : Calls Tryz.prog 32 #[] W fun e W' => e = .returned (.pointer (some ⟨W.heap.size, 0, none⟩)) ∧ IsRet W' W.heap.size ∧ Below W.heap.size W W' := by
  go_enter Tryz.func32, Tryz.ntmps32
  go_wp2_with fail
  go_ret
  exact ⟨rfl, heap_alloc_new _ _, below_alloc _ _⟩
/-- what lies in memory while a trace is gone through -/
structure GT (W : World) (m v b most rb : Nat) (s : Ms) (k : Nat) (wr : World) : Prop where
  me : ∃ F, ME W v b most s k F wr ∧ ¬ F rb ∧ ¬ F m
  ret : IsRet wr rb
  mem : IsMem wr m b
  rv : rb ≠ v
  mv : m ≠ v
theorem GT.on {W : World} {m v b most rb : Nat} {s : Ms} {k : Nat} {wr w' : World} (h : GT W m v b most rb s k wr) (hb : Below wr.heap.size wr w') : GT W m v b most rb s k w' := by
  obtain ⟨F, h1, h2⟩ := h.me
  exact ⟨⟨F, h1.on hb, h2⟩, heap_below h.ret hb, h.mem.chg (belowC hb) (fun x => x), h.rv, h.mv⟩
theorem GT.next {W : World} {m v b most rb : Nat} {s s' : Ms} {k : Nat} {F : Nat → Prop} {w w' : World} (h : GT W m v b most rb s k w) (hr : ¬ F rb) (hm : ¬ F m) (hx : MEx W v b most s' (k + 1) F w w') : GT W m v b most rb s' (k + 1) w' := by
  obtain ⟨F', h1, hc, hn⟩ := hx
  have l1 := lt_of h.ret
  have l2 := h.mem.lt
  refine ⟨⟨F', h1, fun e => ?_, fun e => ?_⟩, (hc.block rb l1 (fun e => e.elim hr h.rv)).trans h.ret, h.mem.chg hc (fun e => e.elim hm h.mv), h.rv, h.mv⟩
  · rcases hn rb e with q | q
    · exact hr q
    · omega
  · rcases hn m e with q | q
    · exact hm q
    · omega
def mkMs (_ : Nat) : Ms := ⟨1, []⟩
theorem fn_at {w : World} {rb : Nat} (h : IsRet w rb) : w.cell? ⟨rb, 1, none⟩ = some (.func (.func 51) #[] #[]) ∧ w.cell? ⟨rb, 2, none⟩ = some (.func (.func 53) #[] #[]) ∧ w.cell? ⟨rb, 3, none⟩ = some (.func (.func 55) #[] #[]) ∧ w.cell? ⟨rb, 4, none⟩ = some (.func (.func 57) #[] #[]) ∧ w.cell? ⟨rb, 5, none⟩ = some (.func (.func 59) #[] #[]) :=
  ⟨cell_of h 1, cell_of h 2, cell_of h 3, cell_of h 4, cell_of h 5⟩
/-- how a trace is gone through -/
structure Thr (W : World) (n : Nat) (xs : List Ax) (v : Value) (W' : World) : Prop where
  bel : Below W.heap.size W W'
  res : (∃ m b F l, v = .tuple #[.pointer (some ⟨m, 0, none⟩), .int .i64 0, .int .i64 (xs.length : Int)] ∧ (∀ x ∈ xs, RightA x) ∧ msBad n ⟨1, []⟩ xs = xs.length ∧ IsMem W' m b ∧ Bank W' F b n (msEnd n ⟨1, []⟩ xs).next (msEnd n ⟨1, []⟩ xs).cs l ∧ (∀ j, F j → W.heap.size ≤ j) ∧ W.heap.size ≤ m) ∨
    ((∀ x ∈ xs, RightA x) ∧ msBad n ⟨1, []⟩ xs < xs.length ∧ v = .tuple #[.pointer none, .int .i64 210, .int .i64 (msBad n ⟨1, []⟩ xs : Int)]) ∨
    (¬ (∀ x ∈ xs, RightA x) ∧ v = .tuple #[.pointer none, .int .i64 52, .int .i64 (wrongI xs : Int)])

set_option maxRecDepth 100000 in
set_option maxHeartbeats 8000000 in
theorem go_through (n : Nat) (hn : 128 ≤ n ∧ n ≤ 4194304) (p : Option Addr) (c : Nat) (xs : List Ax) (W : World) (h : ARd W p xs) (hok : ∀ x ∈ xs, x.Ok) (hl : xs.length ≤ 1048576) (hvl : ∀ x ∈ xs, x.vals.length ≤ 1048576) :
    Calls Tryz.prog 16 #[.int .i64 (n : Int), .slice p xs.length c] W fun e W' => ∃ v, e = .returned v ∧ Thr W n xs v W' := by
  have hnew := m_new n W hn
  obtain ⟨N, hN⟩ : ∃ N, N = xs.length := ⟨_, rfl⟩
  have HFW : Hid (∀ w1 tb, Below W.heap.size W w1 → IsForms w1 tb → Calls Tryz.prog 30 #[.pointer (some ⟨tb, 0, none⟩), .slice p xs.length c] w1 fun e W' => e = .returned (.int .i64 (wrongI xs : Int)) ∧ Below w1.heap.size w1 W') := keepH (fun w1 tb hb hF => first_wrong p c tb xs w1 (h.on hb) hok hl hF)
  rw [← hN] at HFW hl ⊢
  obtain ⟨wi, hwi⟩ : ∃ wi, wi = wrongI xs := ⟨_, rfl⟩
  rw [← hwi] at HFW
  have HWI := keepH hwi
  have HN := keepH hN
  have HR := keepH h
  have HOK := keepH hok
  have HVL := keepH hvl
  clear hN hwi h hok hvl
  go_enter Tryz.func16, Tryz.ntmps16
  go_wp2_with fail
  refine hnew.mono ?_
  rintro e w1 ⟨rfl, hm1, hb1, hc1, hs1⟩
  obtain ⟨mm, hmm⟩ : ∃ mm, mm = W.heap.size + 1 := ⟨_, rfl⟩
  obtain ⟨b, hb⟩ : ∃ b, b = W.heap.size := ⟨_, rfl⟩
  rw [← hmm] at hm1 ⊢
  rw [← hb] at hm1 hb1
  have H1 : Hid (Below W.heap.size W w1 ∧ IsMem w1 mm b ∧ Bank w1 (fun k => k = b) b n 1 [] [] ∧ mm < w1.heap.size ∧ b < w1.heap.size ∧ mm = b + 1 ∧ b = W.heap.size) := keepH ⟨chgB hc1, hm1, hb1, by omega, by omega, by omega, hb⟩
  have HMM : Hid (W.heap.size ≤ mm) := keepH (by omega)
  clear hnew hm1 hb1 hc1 hs1 hmm hb
  have hfo := f_forms w1
  go_wp2_with fail
  refine hfo.mono ?_
  rintro e w2 ⟨rfl, hF2, hs2, B2⟩
  have hfw := HFW.out w2 _ (below_chain H1.out.1 B2) hF2
  have HB2 := keepH B2
  clear hF2 hs2 B2 hfo
  go_wp2_with fail
  refine hfw.mono ?_
  rintro e w3 ⟨rfl, C3⟩
  have H3 : Hid (Below W.heap.size W w3 ∧ IsMem w3 mm b ∧ Bank w3 (fun k => k = b) b n 1 [] [] ∧ mm < w3.heap.size ∧ b < w3.heap.size ∧ mm = b + 1 ∧ b = W.heap.size) := keepH (by
    have hbb := below_chain HB2.out C3
    exact ⟨below_chain H1.out.1 hbb, H1.out.2.1.chg (belowC hbb) (fun x => x), H1.out.2.2.1.chg (belowC hbb) (fun _ _ x => x), Nat.lt_of_lt_of_le H1.out.2.2.2.1 hbb.size, Nat.lt_of_lt_of_le H1.out.2.2.2.2.1 hbb.size, H1.out.2.2.2.2.2⟩)
  clear C3 hfw HB2 H1 HFW
  by_cases hall : ∀ x ∈ xs, RightA x
  · have hwn : wi = N := by rw [HWI.out, HN.out]; exact wrongI_all hall
    have HAR := keepH hall
    rw [hwn]
    clear hwn hall
    have q1 : ¬ (N : Int) < (N : Int) := by omega
    have hvw := m_view mm b 0 w3 H3.out.2.1
    go_wp2_with fail
    refine hvw.mono ?_
    rintro e w4 ⟨rfl, hw4⟩
    obtain ⟨v, hv⟩ : ∃ v, v = w3.heap.size := ⟨_, rfl⟩
    have D4 : Below w3.heap.size w3 w4 := by rw [hw4]; exact below_alloc _ _
    have V4 : IsView w4 v b 0 0 := by rw [hw4, hv]; exact heap_alloc_new _ _
    rw [← hv]
    have hre := f_retries w4
    have H4 : Hid (Below W.heap.size W w4 ∧ IsMem w4 mm b ∧ Bank w4 (fun k => k = b) b n 1 [] [] ∧ IsView w4 v b 0 0 ∧ mm < v ∧ b < v ∧ mm ≠ b ∧ W.heap.size ≤ b) := keepH ⟨below_chain H3.out.1 D4, H3.out.2.1.chg (belowC D4) (fun x => x), H3.out.2.2.1.chg (belowC D4) (fun _ _ x => x), V4, by have := H3.out.2.2.2.1; omega, by have := H3.out.2.2.2.2.1; omega, by have := H3.out.2.2.2.2.2.1; omega, by have := H3.out.2.2.2.2.2.2; omega⟩
    clear hw4 D4 V4 hvw hv H3
    go_wp2_with fail
    refine hre.mono ?_
    rintro e w5 ⟨rfl, hR5, D5⟩
    obtain ⟨rb, hrb⟩ : ∃ rb, rb = w4.heap.size := ⟨_, rfl⟩
    rw [← hrb] at hR5 ⊢
    have H5 : Hid (GT W mm v b n rb ⟨1, []⟩ 0 w5) := keepH (by
      have h4 := H4.out
      have hvl := h4.2.2.2.1.lt
      refine ⟨⟨fun k => k = b, ⟨below_chain h4.1 D5, ⟨0, [], Nat.le_refl _, Nat.le_refl _, h4.2.2.2.1.chg (belowC D5) (fun x => x), h4.2.2.1.chg (belowC D5) (fun _ _ x => x)⟩, by omega, fun j hj => by rw [hj]; exact h4.2.2.2.2.2.2.2, by omega⟩, by omega, h4.2.2.2.2.2.2.1⟩, hR5, h4.2.1.chg (belowC D5) (fun x => x), by omega, by omega⟩)
    clear hR5 D5 hre H4 hrb
    go_wp2_with fail
    go_loopw [12, 13, 35] (fun s12 s13 s35 wr => ∃ i : Nat, i ≤ N ∧ s35 = .int .i64 (i : Int) ∧ Hid ((∀ j y, j < i → xs[j]? = some y → msTell n (msAt n ⟨1, []⟩ xs j) y = true) ∧ GT W mm v b n rb (msAt n ⟨1, []⟩ xs i) i wr)) (fun _ _ s35 _ => N - (intOf s35).toNat)
    case atStart => exact ⟨0, by omega, rfl, keepH ⟨fun j y hj => absurd hj (Nat.not_lt_zero _), H5.out⟩⟩
    case round =>
     obtain ⟨i, hi, rfl, HI⟩ := hrel
     by_cases hlt : i < N
     · have q1 : (i : Int) < (N : Int) := by omega
       have q0 : (0 : Int) ≤ (i : Int) := by omega
       obtain ⟨x, hx⟩ : ∃ x, xs[i]? = some x := ⟨xs[i]'(by rw [← HN.out]; exact hlt), List.getElem?_eq_getElem _⟩
       have hmem := List.mem_of_getElem? hx
       have hxo := HOK.out x hmem
       have o1 := hxo.addr
       have o2 := hxo.a
       have o3 := hxo.b
       have o5 := hxo.vals
       have hvl := HVL.out x hmem
       have hxk := right_kind (HAR.out x hmem)
       obtain ⟨F, hME, hFr, hFm⟩ := HI.out.2.me
       obtain ⟨bk, off, vp, vc, rfl, hbk, a0, a1, a2, a3, a4, a5, a6, a7, hu⟩ := (HR.out.on hME.bel).get i x hx
       have hne : ∀ q, vp = some q → x.vals ≠ [] → ¬ F q.block ∧ q.block ≠ v := by
         intro q hq hne
         obtain ⟨_, _, vp0, vc0, e1, _, _, _, _, _, _, a50, _, _, hu0⟩ := HR.out.get i x hx
         injection e1 with e1
         injection e1 with e1 e2
         subst e1 e2
         have e5 := a5.symm.trans (cell_below a50 hME.bel)
         injection e5 with e5
         injection e5 with e5
         subst e5
         rcases hu0 with hu0 | ⟨b1, o1', e6, hb1, _⟩
         · exact absurd hu0 hne
         · rw [hq] at e6
           injection e6 with e6
           rw [e6]
           refine ⟨fun hf => ?_, ?_⟩
           · have := hME.new _ hf
             simp only at this
             omega
           · have := hME.v0
             simp only
             omega
       obtain ⟨xth, xk, xad, xa, xb, xvals, xgot, xok⟩ := x
       simp only at a0 a1 a2 a3 a4 a5 a6 a7 o1 o2 o3 o5 hvl hxk hu hne
       have HX := keepH hx
       obtain ⟨s, hs⟩ : ∃ s, s = msAt n ⟨1, []⟩ xs i := ⟨_, rfl⟩
       rw [← hs] at hME
       have HSS := keepH hs
       have HMB : Hid (msTell n s ⟨xth, xk, xad, xa, xb, xvals, xgot, xok⟩ = false → msBad n ⟨1, []⟩ xs = i) := keepH (fun e => msBad_is hx HI.out.1 (by rw [← hs]; exact e))
       have HMG : Hid (msTell n s ⟨xth, xk, xad, xa, xb, xvals, xgot, xok⟩ = true → ∀ j y, j < i + 1 → xs[j]? = some y → msTell n (msAt n ⟨1, []⟩ xs j) y = true) := keepH (fun e j y hj hy => by
         rcases Nat.lt_or_ge j i with q | q
         · exact HI.out.1 j y q hy
         · obtain rfl : j = i := by omega
           have e2 := hx.symm.trans hy
           injection e2 with e2
           subst e2
           rw [← hs]; exact e)
       have HI' : Hid (GT W mm v b n rb s i wr) := by rw [hs]; exact keepH HI.out.2
       obtain ⟨vn, hvn⟩ : ∃ vn, vn = xvals.length := ⟨_, rfl⟩
       rw [← hvn] at a5
       obtain ⟨bx, hbx⟩ : ∃ bx, bx = wr.heap.size := ⟨_, rfl⟩
       clear hx hs hmem hxo hbk
       have hk' : xk = 1 ∨ xk = 2 ∨ xk = 3 ∨ xk = 4 ∨ xk = 5 := by omega
       clear hxk
       rcases hk' with rfl | rfl | rfl | rfl | rfl
       · obtain ⟨w3, hw3⟩ : ∃ w3, w3 = wr.alloc (.cells #[.int .i64 xth, .int .u8 1, .int .u64 (xad : Int), .int .u64 (xa : Int), .int .u64 (xb : Int), .slice vp vn vc, .int .u64 (xgot : Int), .bool xok] 44) := ⟨_, rfl⟩
         have C3 : Below wr.heap.size wr w3 := by rw [hw3]; exact below_alloc _ _
         have X3 : w3.heap[bx]? = some (.cells #[.int .i64 xth, .int .u8 1, .int .u64 (xad : Int), .int .u64 (xa : Int), .int .u64 (xb : Int), .slice vp vn vc, .int .u64 (xgot : Int), .bool xok] 44 (0, 0)) := by rw [hw3, hbx]; exact heap_alloc_new _ _
         have HW3 := keepH hw3
         clear hw3
         have hTell : msTell n s ⟨xth, 1, xad, xa, xb, xvals, xgot, xok⟩ = decide (cellN s.cs xad = xgot) := rfl
         have HCL : Hid (∀ m, Calls Tryz.prog 51 #[.pointer (some ⟨v, 0, none⟩), .agg #[.int .i64 xth, .int .u8 1, .int .u64 (xad : Int), .int .u64 (xa : Int), .int .u64 (xb : Int), .slice vp vn vc, .int .u64 (xgot : Int), .bool xok]] (w3.drewN m) fun e w' => e = .returned (.bool (msTell n s ⟨xth, 1, xad, xa, xb, xvals, xgot, xok⟩)) ∧ MEx W v b n (msStep n s ⟨xth, 1, xad, xa, xb, xvals, xgot, xok⟩) (i + 1) F (w3.drewN m) w') := keepH (fun m => by
           have hb : Below wr.heap.size wr (w3.drewN m) := below_drewN C3 m
           have e := rt_1 (hME.on hb) (by omega) xth 1 xad xa xb xgot vn vc vp xok o1 o2 o3
           rw [← hTell] at e
           exact e)
         obtain ⟨R, hR⟩ : ∃ R, R = msTell n s ⟨xth, 1, xad, xa, xb, xvals, xgot, xok⟩ := ⟨_, rfl⟩
         rw [← hR] at HCL
         have HRR : Hid (R = msTell n s ⟨xth, 1, xad, xa, xb, xvals, xgot, xok⟩) := keepH hR
         have HNX : Hid (∀ m w', MEx W v b n (msStep n s ⟨xth, 1, xad, xa, xb, xvals, xgot, xok⟩) (i + 1) F (w3.drewN m) w' → GT W mm v b n rb (msStep n s ⟨xth, 1, xad, xa, xb, xvals, xgot, xok⟩) (i + 1) w' ∧ w'.heap[bx]? = some (.cells #[.int .i64 xth, .int .u8 1, .int .u64 (xad : Int), .int .u64 (xa : Int), .int .u64 (xb : Int), .slice vp vn vc, .int .u64 (xgot : Int), .bool xok] 44 (0, 0))) := keepH (fun m w' hx => ⟨((HI'.out.on C3).on (below_drewN (Below.refl _ _) m)).next hFr hFm hx, hx.box hME hbx X3⟩)
         have hret := (HI'.out.on C3).ret
         have HS0 : Hid (w3.heap[rb]? = some (.cells retC 128 (0, 0)) ∧ w3.heap[bx]? = some (.cells #[.int .i64 xth, .int .u8 1, .int .u64 (xad : Int), .int .u64 (xa : Int), .int .u64 (xb : Int), .slice vp vn vc, .int .u64 (xgot : Int), .bool xok] 44 (0, 0))) := keepH ⟨hret, X3⟩
         clear hTell hR hret hME C3 X3 hFr hFm hne hu o1 o2 o3 o5 hvl hvn
         go_upto_region 11 with fail
         rw [← HW3.out, ← hbx]
         clear hbx a0 a1 a2 a3 a4 a5 a6 a7
         refine wp_region_held_drew (S := fun w' => w'.heap[rb]? = some (.cells retC 128 (0, 0)) ∧ w'.heap[bx]? = some (.cells #[.int .i64 xth, .int .u8 1, .int .u64 (xad : Int), .int .u64 (xa : Int), .int .u64 (xb : Int), .slice vp vn vc, .int .u64 (xgot : Int), .bool xok] 44 (0, 0))) (by kernel_rfl) (HS0.out) ?_
         intro hHeld
         refine wpAnyH_take (i := 0) (v := ?_) rfl (by kernel_rfl) (by kernel_rfl) (by kernel_rfl) (fun _ _ _ h => h) (Or.inl ⟨by rfl, ?_⟩) hHeld ?_
         rotate_left
         · intro w hSw
           (try dsimp only at hSw)
           go_simp
           try with_reducible rfl
         (try simp only [Act.put]); (try simp only [List.setIfInBounds_toArray]); (try simp only [List.getElem_toArray]); (repeat (first | simp only [List.getElem_cons_succ] | simp only [List.getElem_cons_zero])); (repeat (first | simp only [List.set_cons_succ] | simp only [List.set_cons_zero]))
         refine wpAnyH_take (i := 1) (v := ?_) rfl (by kernel_rfl) (by kernel_rfl) (by kernel_rfl) (fun _ _ _ h => h) (Or.inl ⟨by rfl, ?_⟩) hHeld ?_
         rotate_left
         · intro w hSw
           (try dsimp only at hSw)
           go_simp
           try with_reducible rfl
         (try simp only [Act.put]); (try simp only [List.setIfInBounds_toArray]); (try simp only [List.getElem_toArray]); (repeat (first | simp only [List.getElem_cons_succ] | simp only [List.getElem_cons_zero])); (repeat (first | simp only [List.set_cons_succ] | simp only [List.set_cons_zero]))
         refine wpAnyH_take (i := 2) (v := ?_) rfl (by kernel_rfl) (by kernel_rfl) (by kernel_rfl) (fun _ _ _ h => h) (Or.inl ⟨by rfl, ?_⟩) hHeld ?_
         rotate_left
         · intro w hSw
           (try dsimp only at hSw)
           have y1 : w.cell? ⟨bx, 1, none⟩ = some (.int .u8 1) := cell_of hSw.2 1
           go_simp
           try with_reducible rfl
         (try simp only [Act.put]); (try simp only [List.setIfInBounds_toArray]); (try simp only [List.getElem_toArray]); (repeat (first | simp only [List.getElem_cons_succ] | simp only [List.getElem_cons_zero])); (repeat (first | simp only [List.set_cons_succ] | simp only [List.set_cons_zero]))
         refine wpAnyH_take (i := 3) (v := ?_) rfl (by kernel_rfl) (by kernel_rfl) (by kernel_rfl) (fun _ _ _ h => h) (Or.inl ⟨by rfl, ?_⟩) hHeld ?_
         rotate_left
         · intro w hSw
           (try dsimp only at hSw)
           go_simp
           try with_reducible rfl
         (try simp only [Act.put]); (try simp only [List.setIfInBounds_toArray]); (try simp only [List.getElem_toArray]); (repeat (first | simp only [List.getElem_cons_succ] | simp only [List.getElem_cons_zero])); (repeat (first | simp only [List.set_cons_succ] | simp only [List.set_cons_zero]))
         refine wpAnyH_take (i := 4) (v := ?_) rfl (by kernel_rfl) (by kernel_rfl) (by kernel_rfl) (fun _ _ _ h => h) (Or.inl ⟨by rfl, ?_⟩) hHeld ?_
         rotate_left
         · intro w hSw
           (try dsimp only at hSw)
           go_simp
           try with_reducible rfl
         (try simp only [Act.put]); (try simp only [List.setIfInBounds_toArray]); (try simp only [List.getElem_toArray]); (repeat (first | simp only [List.getElem_cons_succ] | simp only [List.getElem_cons_zero])); (repeat (first | simp only [List.set_cons_succ] | simp only [List.set_cons_zero]))
         refine wpAnyH_take (i := 5) (v := ?_) rfl (by kernel_rfl) (by kernel_rfl) (by kernel_rfl) (fun _ _ _ h => h) (Or.inl ⟨by rfl, ?_⟩) hHeld ?_
         rotate_left
         · intro w hSw
           (try dsimp only at hSw)
           have y1 : w.cell? ⟨rb, 1, none⟩ = some (.func (.func 51) #[] #[]) := cell_of hSw.1 1
           go_simp
           try with_reducible rfl
         (try simp only [Act.put]); (try simp only [List.setIfInBounds_toArray]); (try simp only [List.getElem_toArray]); (repeat (first | simp only [List.getElem_cons_succ] | simp only [List.getElem_cons_zero])); (repeat (first | simp only [List.set_cons_succ] | simp only [List.set_cons_zero]))
         refine wpAnyH_take (i := 6) (v := ?_) rfl (by kernel_rfl) (by kernel_rfl) (by kernel_rfl) (fun _ _ _ h => h) (Or.inl ⟨by rfl, ?_⟩) hHeld ?_
         rotate_left
         · intro w hSw
           (try dsimp only at hSw)
           go_simp
           try with_reducible rfl
         (try simp only [Act.put]); (try simp only [List.setIfInBounds_toArray]); (try simp only [List.getElem_toArray]); (repeat (first | simp only [List.getElem_cons_succ] | simp only [List.getElem_cons_zero])); (repeat (first | simp only [List.set_cons_succ] | simp only [List.set_cons_zero]))
         refine wpAnyH_take (i := 7) (v := ?_) rfl (by kernel_rfl) (by kernel_rfl) (by kernel_rfl) (fun _ _ _ h => h) (Or.inl ⟨by rfl, ?_⟩) hHeld ?_
         rotate_left
         · intro w hSw
           (try dsimp only at hSw)
           have y0 : w.cell? ⟨bx, 0, none⟩ = some (.int .i64 xth) := cell_of hSw.2 0
           have y1 : w.cell? ⟨bx, 1, none⟩ = some (.int .u8 1) := cell_of hSw.2 1
           have y2 : w.cell? ⟨bx, 2, none⟩ = some (.int .u64 (xad : Int)) := cell_of hSw.2 2
           have y3 : w.cell? ⟨bx, 3, none⟩ = some (.int .u64 (xa : Int)) := cell_of hSw.2 3
           have y4 : w.cell? ⟨bx, 4, none⟩ = some (.int .u64 (xb : Int)) := cell_of hSw.2 4
           have y5 : w.cell? ⟨bx, 5, none⟩ = some (.slice vp vn vc) := cell_of hSw.2 5
           have y6 : w.cell? ⟨bx, 6, none⟩ = some (.int .u64 (xgot : Int)) := cell_of hSw.2 6
           have y7 : w.cell? ⟨bx, 7, none⟩ = some (.bool xok) := cell_of hSw.2 7
           go_simp
           try with_reducible rfl
         (try simp only [Act.put]); (try simp only [List.setIfInBounds_toArray]); (try simp only [List.getElem_toArray]); (repeat (first | simp only [List.getElem_cons_succ] | simp only [List.getElem_cons_zero])); (repeat (first | simp only [List.set_cons_succ] | simp only [List.set_cons_zero]))
         refine wpAnyH_ready (rs := [8]) (by kernel_rfl) (by simp) ?_
         refine AllReadyH.cons rfl (fun KK hKK => ?_) AllReadyH.nil
         go_simp
         refine (HCL.out _).mono ?_
         rintro e w5 ⟨rfl, hm⟩
         obtain ⟨hg, hx5⟩ := HNX.out _ _ hm
         have hr5 := hg.ret
         have HG := keepH hg
         clear hm hg
         refine hKK.out _ _ ?_ (fun hHeld => ?_)
         · exact ⟨hr5, hx5⟩
         clear hKK KK
         (try simp only [Act.put]); (try simp only [List.setIfInBounds_toArray]); (try simp only [List.getElem_toArray]); (repeat (first | simp only [List.getElem_cons_succ] | simp only [List.getElem_cons_zero])); (repeat (first | simp only [List.set_cons_succ] | simp only [List.set_cons_zero]))
         refine wpAnyH_take (i := 9) (v := ?_) rfl (by kernel_rfl) (by kernel_rfl) (by kernel_rfl) (fun _ _ _ h => h) (Or.inl ⟨by rfl, ?_⟩) hHeld ?_
         rotate_left
         · intro w hSw
           (try dsimp only at hSw)
           go_simp
           try with_reducible rfl
         (try simp only [Act.put]); (try simp only [List.setIfInBounds_toArray]); (try simp only [List.getElem_toArray]); (repeat (first | simp only [List.getElem_cons_succ] | simp only [List.getElem_cons_zero])); (repeat (first | simp only [List.set_cons_succ] | simp only [List.set_cons_zero]))
         refine wpAnyH_done (by kernel_rfl) ?_ _
         go_simp
         all_goals (
           clear hHeld
           cases R
           · go_wp2_with fail
             go_ret3
             refine ⟨_, rfl, ?_, Or.inr (Or.inl ⟨HAR.out, ?_, ?_⟩)⟩
             · obtain ⟨F', h1, _⟩ := HG.out.me
               exact h1.bel
             · rw [HMB.out HRR.out.symm, ← HN.out]; exact hlt
             · rw [HMB.out HRR.out.symm]; first | rfl | simp
           · go_wp2_with fail
             go_roundw
             case rel => exact ⟨i + 1, by omega, by first | rfl | go_num, keepH ⟨HMG.out HRR.out.symm, by rw [msAt_succ HX.out, ← HSS.out]; exact HG.out⟩⟩
             case measure => simp [intOf]; omega)
       · obtain ⟨w3, hw3⟩ : ∃ w3, w3 = wr.alloc (.cells #[.int .i64 xth, .int .u8 2, .int .u64 (xad : Int), .int .u64 (xa : Int), .int .u64 (xb : Int), .slice vp vn vc, .int .u64 (xgot : Int), .bool xok] 44) := ⟨_, rfl⟩
         have C3 : Below wr.heap.size wr w3 := by rw [hw3]; exact below_alloc _ _
         have X3 : w3.heap[bx]? = some (.cells #[.int .i64 xth, .int .u8 2, .int .u64 (xad : Int), .int .u64 (xa : Int), .int .u64 (xb : Int), .slice vp vn vc, .int .u64 (xgot : Int), .bool xok] 44 (0, 0)) := by rw [hw3, hbx]; exact heap_alloc_new _ _
         have HW3 := keepH hw3
         clear hw3
         have hTell : msTell n s ⟨xth, 2, xad, xa, xb, xvals, xgot, xok⟩ = true := rfl
         have HCL : Hid (∀ m, Calls Tryz.prog 53 #[.pointer (some ⟨v, 0, none⟩), .agg #[.int .i64 xth, .int .u8 2, .int .u64 (xad : Int), .int .u64 (xa : Int), .int .u64 (xb : Int), .slice vp vn vc, .int .u64 (xgot : Int), .bool xok]] (w3.drewN m) fun e w' => e = .returned (.bool (msTell n s ⟨xth, 2, xad, xa, xb, xvals, xgot, xok⟩)) ∧ MEx W v b n (msStep n s ⟨xth, 2, xad, xa, xb, xvals, xgot, xok⟩) (i + 1) F (w3.drewN m) w') := keepH (fun m => by
           have hb : Below wr.heap.size wr (w3.drewN m) := below_drewN C3 m
           have e := rt_2 (hME.on hb) (by omega) xth 2 xad xa xb xgot vn vc vp xok o1 o2
           rw [← hTell] at e
           exact e)
         obtain ⟨R, hR⟩ : ∃ R, R = msTell n s ⟨xth, 2, xad, xa, xb, xvals, xgot, xok⟩ := ⟨_, rfl⟩
         rw [← hR] at HCL
         have HRR : Hid (R = msTell n s ⟨xth, 2, xad, xa, xb, xvals, xgot, xok⟩) := keepH hR
         have HNX : Hid (∀ m w', MEx W v b n (msStep n s ⟨xth, 2, xad, xa, xb, xvals, xgot, xok⟩) (i + 1) F (w3.drewN m) w' → GT W mm v b n rb (msStep n s ⟨xth, 2, xad, xa, xb, xvals, xgot, xok⟩) (i + 1) w' ∧ w'.heap[bx]? = some (.cells #[.int .i64 xth, .int .u8 2, .int .u64 (xad : Int), .int .u64 (xa : Int), .int .u64 (xb : Int), .slice vp vn vc, .int .u64 (xgot : Int), .bool xok] 44 (0, 0))) := keepH (fun m w' hx => ⟨((HI'.out.on C3).on (below_drewN (Below.refl _ _) m)).next hFr hFm hx, hx.box hME hbx X3⟩)
         have hret := (HI'.out.on C3).ret
         have HS0 : Hid (w3.heap[rb]? = some (.cells retC 128 (0, 0)) ∧ w3.heap[bx]? = some (.cells #[.int .i64 xth, .int .u8 2, .int .u64 (xad : Int), .int .u64 (xa : Int), .int .u64 (xb : Int), .slice vp vn vc, .int .u64 (xgot : Int), .bool xok] 44 (0, 0))) := keepH ⟨hret, X3⟩
         clear hTell hR hret hME C3 X3 hFr hFm hne hu o1 o2 o3 o5 hvl hvn
         go_upto_region 11 with fail
         rw [← HW3.out, ← hbx]
         clear hbx a0 a1 a2 a3 a4 a5 a6 a7
         refine wp_region_held_drew (S := fun w' => w'.heap[rb]? = some (.cells retC 128 (0, 0)) ∧ w'.heap[bx]? = some (.cells #[.int .i64 xth, .int .u8 2, .int .u64 (xad : Int), .int .u64 (xa : Int), .int .u64 (xb : Int), .slice vp vn vc, .int .u64 (xgot : Int), .bool xok] 44 (0, 0))) (by kernel_rfl) (HS0.out) ?_
         intro hHeld
         refine wpAnyH_take (i := 0) (v := ?_) rfl (by kernel_rfl) (by kernel_rfl) (by kernel_rfl) (fun _ _ _ h => h) (Or.inl ⟨by rfl, ?_⟩) hHeld ?_
         rotate_left
         · intro w hSw
           (try dsimp only at hSw)
           go_simp
           try with_reducible rfl
         (try simp only [Act.put]); (try simp only [List.setIfInBounds_toArray]); (try simp only [List.getElem_toArray]); (repeat (first | simp only [List.getElem_cons_succ] | simp only [List.getElem_cons_zero])); (repeat (first | simp only [List.set_cons_succ] | simp only [List.set_cons_zero]))
         refine wpAnyH_take (i := 1) (v := ?_) rfl (by kernel_rfl) (by kernel_rfl) (by kernel_rfl) (fun _ _ _ h => h) (Or.inl ⟨by rfl, ?_⟩) hHeld ?_
         rotate_left
         · intro w hSw
           (try dsimp only at hSw)
           go_simp
           try with_reducible rfl
         (try simp only [Act.put]); (try simp only [List.setIfInBounds_toArray]); (try simp only [List.getElem_toArray]); (repeat (first | simp only [List.getElem_cons_succ] | simp only [List.getElem_cons_zero])); (repeat (first | simp only [List.set_cons_succ] | simp only [List.set_cons_zero]))
         refine wpAnyH_take (i := 2) (v := ?_) rfl (by kernel_rfl) (by kernel_rfl) (by kernel_rfl) (fun _ _ _ h => h) (Or.inl ⟨by rfl, ?_⟩) hHeld ?_
         rotate_left
         · intro w hSw
           (try dsimp only at hSw)
           have y1 : w.cell? ⟨bx, 1, none⟩ = some (.int .u8 2) := cell_of hSw.2 1
           go_simp
           try with_reducible rfl
         (try simp only [Act.put]); (try simp only [List.setIfInBounds_toArray]); (try simp only [List.getElem_toArray]); (repeat (first | simp only [List.getElem_cons_succ] | simp only [List.getElem_cons_zero])); (repeat (first | simp only [List.set_cons_succ] | simp only [List.set_cons_zero]))
         refine wpAnyH_take (i := 3) (v := ?_) rfl (by kernel_rfl) (by kernel_rfl) (by kernel_rfl) (fun _ _ _ h => h) (Or.inl ⟨by rfl, ?_⟩) hHeld ?_
         rotate_left
         · intro w hSw
           (try dsimp only at hSw)
           go_simp
           try with_reducible rfl
         (try simp only [Act.put]); (try simp only [List.setIfInBounds_toArray]); (try simp only [List.getElem_toArray]); (repeat (first | simp only [List.getElem_cons_succ] | simp only [List.getElem_cons_zero])); (repeat (first | simp only [List.set_cons_succ] | simp only [List.set_cons_zero]))
         refine wpAnyH_take (i := 4) (v := ?_) rfl (by kernel_rfl) (by kernel_rfl) (by kernel_rfl) (fun _ _ _ h => h) (Or.inl ⟨by rfl, ?_⟩) hHeld ?_
         rotate_left
         · intro w hSw
           (try dsimp only at hSw)
           go_simp
           try with_reducible rfl
         (try simp only [Act.put]); (try simp only [List.setIfInBounds_toArray]); (try simp only [List.getElem_toArray]); (repeat (first | simp only [List.getElem_cons_succ] | simp only [List.getElem_cons_zero])); (repeat (first | simp only [List.set_cons_succ] | simp only [List.set_cons_zero]))
         refine wpAnyH_take (i := 5) (v := ?_) rfl (by kernel_rfl) (by kernel_rfl) (by kernel_rfl) (fun _ _ _ h => h) (Or.inl ⟨by rfl, ?_⟩) hHeld ?_
         rotate_left
         · intro w hSw
           (try dsimp only at hSw)
           have y1 : w.cell? ⟨rb, 2, none⟩ = some (.func (.func 53) #[] #[]) := cell_of hSw.1 2
           go_simp
           try with_reducible rfl
         (try simp only [Act.put]); (try simp only [List.setIfInBounds_toArray]); (try simp only [List.getElem_toArray]); (repeat (first | simp only [List.getElem_cons_succ] | simp only [List.getElem_cons_zero])); (repeat (first | simp only [List.set_cons_succ] | simp only [List.set_cons_zero]))
         refine wpAnyH_take (i := 6) (v := ?_) rfl (by kernel_rfl) (by kernel_rfl) (by kernel_rfl) (fun _ _ _ h => h) (Or.inl ⟨by rfl, ?_⟩) hHeld ?_
         rotate_left
         · intro w hSw
           (try dsimp only at hSw)
           go_simp
           try with_reducible rfl
         (try simp only [Act.put]); (try simp only [List.setIfInBounds_toArray]); (try simp only [List.getElem_toArray]); (repeat (first | simp only [List.getElem_cons_succ] | simp only [List.getElem_cons_zero])); (repeat (first | simp only [List.set_cons_succ] | simp only [List.set_cons_zero]))
         refine wpAnyH_take (i := 7) (v := ?_) rfl (by kernel_rfl) (by kernel_rfl) (by kernel_rfl) (fun _ _ _ h => h) (Or.inl ⟨by rfl, ?_⟩) hHeld ?_
         rotate_left
         · intro w hSw
           (try dsimp only at hSw)
           have y0 : w.cell? ⟨bx, 0, none⟩ = some (.int .i64 xth) := cell_of hSw.2 0
           have y1 : w.cell? ⟨bx, 1, none⟩ = some (.int .u8 2) := cell_of hSw.2 1
           have y2 : w.cell? ⟨bx, 2, none⟩ = some (.int .u64 (xad : Int)) := cell_of hSw.2 2
           have y3 : w.cell? ⟨bx, 3, none⟩ = some (.int .u64 (xa : Int)) := cell_of hSw.2 3
           have y4 : w.cell? ⟨bx, 4, none⟩ = some (.int .u64 (xb : Int)) := cell_of hSw.2 4
           have y5 : w.cell? ⟨bx, 5, none⟩ = some (.slice vp vn vc) := cell_of hSw.2 5
           have y6 : w.cell? ⟨bx, 6, none⟩ = some (.int .u64 (xgot : Int)) := cell_of hSw.2 6
           have y7 : w.cell? ⟨bx, 7, none⟩ = some (.bool xok) := cell_of hSw.2 7
           go_simp
           try with_reducible rfl
         (try simp only [Act.put]); (try simp only [List.setIfInBounds_toArray]); (try simp only [List.getElem_toArray]); (repeat (first | simp only [List.getElem_cons_succ] | simp only [List.getElem_cons_zero])); (repeat (first | simp only [List.set_cons_succ] | simp only [List.set_cons_zero]))
         refine wpAnyH_ready (rs := [8]) (by kernel_rfl) (by simp) ?_
         refine AllReadyH.cons rfl (fun KK hKK => ?_) AllReadyH.nil
         go_simp
         refine (HCL.out _).mono ?_
         rintro e w5 ⟨rfl, hm⟩
         obtain ⟨hg, hx5⟩ := HNX.out _ _ hm
         have hr5 := hg.ret
         have HG := keepH hg
         clear hm hg
         refine hKK.out _ _ ?_ (fun hHeld => ?_)
         · exact ⟨hr5, hx5⟩
         clear hKK KK
         (try simp only [Act.put]); (try simp only [List.setIfInBounds_toArray]); (try simp only [List.getElem_toArray]); (repeat (first | simp only [List.getElem_cons_succ] | simp only [List.getElem_cons_zero])); (repeat (first | simp only [List.set_cons_succ] | simp only [List.set_cons_zero]))
         refine wpAnyH_take (i := 9) (v := ?_) rfl (by kernel_rfl) (by kernel_rfl) (by kernel_rfl) (fun _ _ _ h => h) (Or.inl ⟨by rfl, ?_⟩) hHeld ?_
         rotate_left
         · intro w hSw
           (try dsimp only at hSw)
           go_simp
           try with_reducible rfl
         (try simp only [Act.put]); (try simp only [List.setIfInBounds_toArray]); (try simp only [List.getElem_toArray]); (repeat (first | simp only [List.getElem_cons_succ] | simp only [List.getElem_cons_zero])); (repeat (first | simp only [List.set_cons_succ] | simp only [List.set_cons_zero]))
         refine wpAnyH_done (by kernel_rfl) ?_ _
         go_simp
         all_goals (
           clear hHeld
           cases R
           · exfalso
             have e : false = true := HRR.out
             cases e
           · go_wp2_with fail
             go_roundw
             case rel => exact ⟨i + 1, by omega, by first | rfl | go_num, keepH ⟨HMG.out HRR.out.symm, by rw [msAt_succ HX.out, ← HSS.out]; exact HG.out⟩⟩
             case measure => simp [intOf]; omega)
       · obtain ⟨w3, hw3⟩ : ∃ w3, w3 = wr.alloc (.cells #[.int .i64 xth, .int .u8 3, .int .u64 (xad : Int), .int .u64 (xa : Int), .int .u64 (xb : Int), .slice vp vn vc, .int .u64 (xgot : Int), .bool xok] 44) := ⟨_, rfl⟩
         have C3 : Below wr.heap.size wr w3 := by rw [hw3]; exact below_alloc _ _
         have X3 : w3.heap[bx]? = some (.cells #[.int .i64 xth, .int .u8 3, .int .u64 (xad : Int), .int .u64 (xa : Int), .int .u64 (xb : Int), .slice vp vn vc, .int .u64 (xgot : Int), .bool xok] 44 (0, 0)) := by rw [hw3, hbx]; exact heap_alloc_new _ _
         have HW3 := keepH hw3
         clear hw3
         have hTell : msTell n s ⟨xth, 3, xad, xa, xb, xvals, xgot, xok⟩ = decide (casOk n s.cs xad xa = xok) := rfl
         have HCL : Hid (∀ m, Calls Tryz.prog 55 #[.pointer (some ⟨v, 0, none⟩), .agg #[.int .i64 xth, .int .u8 3, .int .u64 (xad : Int), .int .u64 (xa : Int), .int .u64 (xb : Int), .slice vp vn vc, .int .u64 (xgot : Int), .bool xok]] (w3.drewN m) fun e w' => e = .returned (.bool (msTell n s ⟨xth, 3, xad, xa, xb, xvals, xgot, xok⟩)) ∧ MEx W v b n (msStep n s ⟨xth, 3, xad, xa, xb, xvals, xgot, xok⟩) (i + 1) F (w3.drewN m) w') := keepH (fun m => by
           have hb : Below wr.heap.size wr (w3.drewN m) := below_drewN C3 m
           have e := rt_3 (hME.on hb) (by omega) xth 3 xad xa xb xgot vn vc vp xok o1 o2 o3
           rw [← hTell] at e
           exact e)
         obtain ⟨R, hR⟩ : ∃ R, R = msTell n s ⟨xth, 3, xad, xa, xb, xvals, xgot, xok⟩ := ⟨_, rfl⟩
         rw [← hR] at HCL
         have HRR : Hid (R = msTell n s ⟨xth, 3, xad, xa, xb, xvals, xgot, xok⟩) := keepH hR
         have HNX : Hid (∀ m w', MEx W v b n (msStep n s ⟨xth, 3, xad, xa, xb, xvals, xgot, xok⟩) (i + 1) F (w3.drewN m) w' → GT W mm v b n rb (msStep n s ⟨xth, 3, xad, xa, xb, xvals, xgot, xok⟩) (i + 1) w' ∧ w'.heap[bx]? = some (.cells #[.int .i64 xth, .int .u8 3, .int .u64 (xad : Int), .int .u64 (xa : Int), .int .u64 (xb : Int), .slice vp vn vc, .int .u64 (xgot : Int), .bool xok] 44 (0, 0))) := keepH (fun m w' hx => ⟨((HI'.out.on C3).on (below_drewN (Below.refl _ _) m)).next hFr hFm hx, hx.box hME hbx X3⟩)
         have hret := (HI'.out.on C3).ret
         have HS0 : Hid (w3.heap[rb]? = some (.cells retC 128 (0, 0)) ∧ w3.heap[bx]? = some (.cells #[.int .i64 xth, .int .u8 3, .int .u64 (xad : Int), .int .u64 (xa : Int), .int .u64 (xb : Int), .slice vp vn vc, .int .u64 (xgot : Int), .bool xok] 44 (0, 0))) := keepH ⟨hret, X3⟩
         clear hTell hR hret hME C3 X3 hFr hFm hne hu o1 o2 o3 o5 hvl hvn
         go_upto_region 11 with fail
         rw [← HW3.out, ← hbx]
         clear hbx a0 a1 a2 a3 a4 a5 a6 a7
         refine wp_region_held_drew (S := fun w' => w'.heap[rb]? = some (.cells retC 128 (0, 0)) ∧ w'.heap[bx]? = some (.cells #[.int .i64 xth, .int .u8 3, .int .u64 (xad : Int), .int .u64 (xa : Int), .int .u64 (xb : Int), .slice vp vn vc, .int .u64 (xgot : Int), .bool xok] 44 (0, 0))) (by kernel_rfl) (HS0.out) ?_
         intro hHeld
         refine wpAnyH_take (i := 0) (v := ?_) rfl (by kernel_rfl) (by kernel_rfl) (by kernel_rfl) (fun _ _ _ h => h) (Or.inl ⟨by rfl, ?_⟩) hHeld ?_
         rotate_left
         · intro w hSw
           (try dsimp only at hSw)
           go_simp
           try with_reducible rfl
         (try simp only [Act.put]); (try simp only [List.setIfInBounds_toArray]); (try simp only [List.getElem_toArray]); (repeat (first | simp only [List.getElem_cons_succ] | simp only [List.getElem_cons_zero])); (repeat (first | simp only [List.set_cons_succ] | simp only [List.set_cons_zero]))
         refine wpAnyH_take (i := 1) (v := ?_) rfl (by kernel_rfl) (by kernel_rfl) (by kernel_rfl) (fun _ _ _ h => h) (Or.inl ⟨by rfl, ?_⟩) hHeld ?_
         rotate_left
         · intro w hSw
           (try dsimp only at hSw)
           go_simp
           try with_reducible rfl
         (try simp only [Act.put]); (try simp only [List.setIfInBounds_toArray]); (try simp only [List.getElem_toArray]); (repeat (first | simp only [List.getElem_cons_succ] | simp only [List.getElem_cons_zero])); (repeat (first | simp only [List.set_cons_succ] | simp only [List.set_cons_zero]))
         refine wpAnyH_take (i := 2) (v := ?_) rfl (by kernel_rfl) (by kernel_rfl) (by kernel_rfl) (fun _ _ _ h => h) (Or.inl ⟨by rfl, ?_⟩) hHeld ?_
         rotate_left
         · intro w hSw
           (try dsimp only at hSw)
           have y1 : w.cell? ⟨bx, 1, none⟩ = some (.int .u8 3) := cell_of hSw.2 1
           go_simp
           try with_reducible rfl
         (try simp only [Act.put]); (try simp only [List.setIfInBounds_toArray]); (try simp only [List.getElem_toArray]); (repeat (first | simp only [List.getElem_cons_succ] | simp only [List.getElem_cons_zero])); (repeat (first | simp only [List.set_cons_succ] | simp only [List.set_cons_zero]))
         refine wpAnyH_take (i := 3) (v := ?_) rfl (by kernel_rfl) (by kernel_rfl) (by kernel_rfl) (fun _ _ _ h => h) (Or.inl ⟨by rfl, ?_⟩) hHeld ?_
         rotate_left
         · intro w hSw
           (try dsimp only at hSw)
           go_simp
           try with_reducible rfl
         (try simp only [Act.put]); (try simp only [List.setIfInBounds_toArray]); (try simp only [List.getElem_toArray]); (repeat (first | simp only [List.getElem_cons_succ] | simp only [List.getElem_cons_zero])); (repeat (first | simp only [List.set_cons_succ] | simp only [List.set_cons_zero]))
         refine wpAnyH_take (i := 4) (v := ?_) rfl (by kernel_rfl) (by kernel_rfl) (by kernel_rfl) (fun _ _ _ h => h) (Or.inl ⟨by rfl, ?_⟩) hHeld ?_
         rotate_left
         · intro w hSw
           (try dsimp only at hSw)
           go_simp
           try with_reducible rfl
         (try simp only [Act.put]); (try simp only [List.setIfInBounds_toArray]); (try simp only [List.getElem_toArray]); (repeat (first | simp only [List.getElem_cons_succ] | simp only [List.getElem_cons_zero])); (repeat (first | simp only [List.set_cons_succ] | simp only [List.set_cons_zero]))
         refine wpAnyH_take (i := 5) (v := ?_) rfl (by kernel_rfl) (by kernel_rfl) (by kernel_rfl) (fun _ _ _ h => h) (Or.inl ⟨by rfl, ?_⟩) hHeld ?_
         rotate_left
         · intro w hSw
           (try dsimp only at hSw)
           have y1 : w.cell? ⟨rb, 3, none⟩ = some (.func (.func 55) #[] #[]) := cell_of hSw.1 3
           go_simp
           try with_reducible rfl
         (try simp only [Act.put]); (try simp only [List.setIfInBounds_toArray]); (try simp only [List.getElem_toArray]); (repeat (first | simp only [List.getElem_cons_succ] | simp only [List.getElem_cons_zero])); (repeat (first | simp only [List.set_cons_succ] | simp only [List.set_cons_zero]))
         refine wpAnyH_take (i := 6) (v := ?_) rfl (by kernel_rfl) (by kernel_rfl) (by kernel_rfl) (fun _ _ _ h => h) (Or.inl ⟨by rfl, ?_⟩) hHeld ?_
         rotate_left
         · intro w hSw
           (try dsimp only at hSw)
           go_simp
           try with_reducible rfl
         (try simp only [Act.put]); (try simp only [List.setIfInBounds_toArray]); (try simp only [List.getElem_toArray]); (repeat (first | simp only [List.getElem_cons_succ] | simp only [List.getElem_cons_zero])); (repeat (first | simp only [List.set_cons_succ] | simp only [List.set_cons_zero]))
         refine wpAnyH_take (i := 7) (v := ?_) rfl (by kernel_rfl) (by kernel_rfl) (by kernel_rfl) (fun _ _ _ h => h) (Or.inl ⟨by rfl, ?_⟩) hHeld ?_
         rotate_left
         · intro w hSw
           (try dsimp only at hSw)
           have y0 : w.cell? ⟨bx, 0, none⟩ = some (.int .i64 xth) := cell_of hSw.2 0
           have y1 : w.cell? ⟨bx, 1, none⟩ = some (.int .u8 3) := cell_of hSw.2 1
           have y2 : w.cell? ⟨bx, 2, none⟩ = some (.int .u64 (xad : Int)) := cell_of hSw.2 2
           have y3 : w.cell? ⟨bx, 3, none⟩ = some (.int .u64 (xa : Int)) := cell_of hSw.2 3
           have y4 : w.cell? ⟨bx, 4, none⟩ = some (.int .u64 (xb : Int)) := cell_of hSw.2 4
           have y5 : w.cell? ⟨bx, 5, none⟩ = some (.slice vp vn vc) := cell_of hSw.2 5
           have y6 : w.cell? ⟨bx, 6, none⟩ = some (.int .u64 (xgot : Int)) := cell_of hSw.2 6
           have y7 : w.cell? ⟨bx, 7, none⟩ = some (.bool xok) := cell_of hSw.2 7
           go_simp
           try with_reducible rfl
         (try simp only [Act.put]); (try simp only [List.setIfInBounds_toArray]); (try simp only [List.getElem_toArray]); (repeat (first | simp only [List.getElem_cons_succ] | simp only [List.getElem_cons_zero])); (repeat (first | simp only [List.set_cons_succ] | simp only [List.set_cons_zero]))
         refine wpAnyH_ready (rs := [8]) (by kernel_rfl) (by simp) ?_
         refine AllReadyH.cons rfl (fun KK hKK => ?_) AllReadyH.nil
         go_simp
         refine (HCL.out _).mono ?_
         rintro e w5 ⟨rfl, hm⟩
         obtain ⟨hg, hx5⟩ := HNX.out _ _ hm
         have hr5 := hg.ret
         have HG := keepH hg
         clear hm hg
         refine hKK.out _ _ ?_ (fun hHeld => ?_)
         · exact ⟨hr5, hx5⟩
         clear hKK KK
         (try simp only [Act.put]); (try simp only [List.setIfInBounds_toArray]); (try simp only [List.getElem_toArray]); (repeat (first | simp only [List.getElem_cons_succ] | simp only [List.getElem_cons_zero])); (repeat (first | simp only [List.set_cons_succ] | simp only [List.set_cons_zero]))
         refine wpAnyH_take (i := 9) (v := ?_) rfl (by kernel_rfl) (by kernel_rfl) (by kernel_rfl) (fun _ _ _ h => h) (Or.inl ⟨by rfl, ?_⟩) hHeld ?_
         rotate_left
         · intro w hSw
           (try dsimp only at hSw)
           go_simp
           try with_reducible rfl
         (try simp only [Act.put]); (try simp only [List.setIfInBounds_toArray]); (try simp only [List.getElem_toArray]); (repeat (first | simp only [List.getElem_cons_succ] | simp only [List.getElem_cons_zero])); (repeat (first | simp only [List.set_cons_succ] | simp only [List.set_cons_zero]))
         refine wpAnyH_done (by kernel_rfl) ?_ _
         go_simp
         all_goals (
           clear hHeld
           cases R
           · go_wp2_with fail
             go_ret3
             refine ⟨_, rfl, ?_, Or.inr (Or.inl ⟨HAR.out, ?_, ?_⟩)⟩
             · obtain ⟨F', h1, _⟩ := HG.out.me
               exact h1.bel
             · rw [HMB.out HRR.out.symm, ← HN.out]; exact hlt
             · rw [HMB.out HRR.out.symm]; first | rfl | simp
           · go_wp2_with fail
             go_roundw
             case rel => exact ⟨i + 1, by omega, by first | rfl | go_num, keepH ⟨HMG.out HRR.out.symm, by rw [msAt_succ HX.out, ← HSS.out]; exact HG.out⟩⟩
             case measure => simp [intOf]; omega)
       · obtain ⟨w3, hw3⟩ : ∃ w3, w3 = wr.alloc (.cells #[.int .i64 xth, .int .u8 4, .int .u64 (xad : Int), .int .u64 (xa : Int), .int .u64 (xb : Int), .slice vp vn vc, .int .u64 (xgot : Int), .bool xok] 44) := ⟨_, rfl⟩
         have C3 : Below wr.heap.size wr w3 := by rw [hw3]; exact below_alloc _ _
         have X3 : w3.heap[bx]? = some (.cells #[.int .i64 xth, .int .u8 4, .int .u64 (xad : Int), .int .u64 (xa : Int), .int .u64 (xb : Int), .slice vp vn vc, .int .u64 (xgot : Int), .bool xok] 44 (0, 0)) := by rw [hw3, hbx]; exact heap_alloc_new _ _
         have HW3 := keepH hw3
         clear hw3
         have hTell : msTell n s ⟨xth, 4, xad, xa, xb, xvals, xgot, xok⟩ = decide (cellN s.cs xad = xgot) := rfl
         have HCL : Hid (∀ m, Calls Tryz.prog 57 #[.pointer (some ⟨v, 0, none⟩), .agg #[.int .i64 xth, .int .u8 4, .int .u64 (xad : Int), .int .u64 (xa : Int), .int .u64 (xb : Int), .slice vp vn vc, .int .u64 (xgot : Int), .bool xok]] (w3.drewN m) fun e w' => e = .returned (.bool (msTell n s ⟨xth, 4, xad, xa, xb, xvals, xgot, xok⟩)) ∧ MEx W v b n (msStep n s ⟨xth, 4, xad, xa, xb, xvals, xgot, xok⟩) (i + 1) F (w3.drewN m) w') := keepH (fun m => by
           have hb : Below wr.heap.size wr (w3.drewN m) := below_drewN C3 m
           have e := rt_4 (hME.on hb) (by omega) xth 4 xad xa xb xgot vn vc vp xok o1 o2 o3
           rw [← hTell] at e
           exact e)
         obtain ⟨R, hR⟩ : ∃ R, R = msTell n s ⟨xth, 4, xad, xa, xb, xvals, xgot, xok⟩ := ⟨_, rfl⟩
         rw [← hR] at HCL
         have HRR : Hid (R = msTell n s ⟨xth, 4, xad, xa, xb, xvals, xgot, xok⟩) := keepH hR
         have HNX : Hid (∀ m w', MEx W v b n (msStep n s ⟨xth, 4, xad, xa, xb, xvals, xgot, xok⟩) (i + 1) F (w3.drewN m) w' → GT W mm v b n rb (msStep n s ⟨xth, 4, xad, xa, xb, xvals, xgot, xok⟩) (i + 1) w' ∧ w'.heap[bx]? = some (.cells #[.int .i64 xth, .int .u8 4, .int .u64 (xad : Int), .int .u64 (xa : Int), .int .u64 (xb : Int), .slice vp vn vc, .int .u64 (xgot : Int), .bool xok] 44 (0, 0))) := keepH (fun m w' hx => ⟨((HI'.out.on C3).on (below_drewN (Below.refl _ _) m)).next hFr hFm hx, hx.box hME hbx X3⟩)
         have hret := (HI'.out.on C3).ret
         have HS0 : Hid (w3.heap[rb]? = some (.cells retC 128 (0, 0)) ∧ w3.heap[bx]? = some (.cells #[.int .i64 xth, .int .u8 4, .int .u64 (xad : Int), .int .u64 (xa : Int), .int .u64 (xb : Int), .slice vp vn vc, .int .u64 (xgot : Int), .bool xok] 44 (0, 0))) := keepH ⟨hret, X3⟩
         clear hTell hR hret hME C3 X3 hFr hFm hne hu o1 o2 o3 o5 hvl hvn
         go_upto_region 11 with fail
         rw [← HW3.out, ← hbx]
         clear hbx a0 a1 a2 a3 a4 a5 a6 a7
         refine wp_region_held_drew (S := fun w' => w'.heap[rb]? = some (.cells retC 128 (0, 0)) ∧ w'.heap[bx]? = some (.cells #[.int .i64 xth, .int .u8 4, .int .u64 (xad : Int), .int .u64 (xa : Int), .int .u64 (xb : Int), .slice vp vn vc, .int .u64 (xgot : Int), .bool xok] 44 (0, 0))) (by kernel_rfl) (HS0.out) ?_
         intro hHeld
         refine wpAnyH_take (i := 0) (v := ?_) rfl (by kernel_rfl) (by kernel_rfl) (by kernel_rfl) (fun _ _ _ h => h) (Or.inl ⟨by rfl, ?_⟩) hHeld ?_
         rotate_left
         · intro w hSw
           (try dsimp only at hSw)
           go_simp
           try with_reducible rfl
         (try simp only [Act.put]); (try simp only [List.setIfInBounds_toArray]); (try simp only [List.getElem_toArray]); (repeat (first | simp only [List.getElem_cons_succ] | simp only [List.getElem_cons_zero])); (repeat (first | simp only [List.set_cons_succ] | simp only [List.set_cons_zero]))
         refine wpAnyH_take (i := 1) (v := ?_) rfl (by kernel_rfl) (by kernel_rfl) (by kernel_rfl) (fun _ _ _ h => h) (Or.inl ⟨by rfl, ?_⟩) hHeld ?_
         rotate_left
         · intro w hSw
           (try dsimp only at hSw)
           go_simp
           try with_reducible rfl
         (try simp only [Act.put]); (try simp only [List.setIfInBounds_toArray]); (try simp only [List.getElem_toArray]); (repeat (first | simp only [List.getElem_cons_succ] | simp only [List.getElem_cons_zero])); (repeat (first | simp only [List.set_cons_succ] | simp only [List.set_cons_zero]))
         refine wpAnyH_take (i := 2) (v := ?_) rfl (by kernel_rfl) (by kernel_rfl) (by kernel_rfl) (fun _ _ _ h => h) (Or.inl ⟨by rfl, ?_⟩) hHeld ?_
         rotate_left
         · intro w hSw
           (try dsimp only at hSw)
           have y1 : w.cell? ⟨bx, 1, none⟩ = some (.int .u8 4) := cell_of hSw.2 1
           go_simp
           try with_reducible rfl
         (try simp only [Act.put]); (try simp only [List.setIfInBounds_toArray]); (try simp only [List.getElem_toArray]); (repeat (first | simp only [List.getElem_cons_succ] | simp only [List.getElem_cons_zero])); (repeat (first | simp only [List.set_cons_succ] | simp only [List.set_cons_zero]))
         refine wpAnyH_take (i := 3) (v := ?_) rfl (by kernel_rfl) (by kernel_rfl) (by kernel_rfl) (fun _ _ _ h => h) (Or.inl ⟨by rfl, ?_⟩) hHeld ?_
         rotate_left
         · intro w hSw
           (try dsimp only at hSw)
           go_simp
           try with_reducible rfl
         (try simp only [Act.put]); (try simp only [List.setIfInBounds_toArray]); (try simp only [List.getElem_toArray]); (repeat (first | simp only [List.getElem_cons_succ] | simp only [List.getElem_cons_zero])); (repeat (first | simp only [List.set_cons_succ] | simp only [List.set_cons_zero]))
         refine wpAnyH_take (i := 4) (v := ?_) rfl (by kernel_rfl) (by kernel_rfl) (by kernel_rfl) (fun _ _ _ h => h) (Or.inl ⟨by rfl, ?_⟩) hHeld ?_
         rotate_left
         · intro w hSw
           (try dsimp only at hSw)
           go_simp
           try with_reducible rfl
         (try simp only [Act.put]); (try simp only [List.setIfInBounds_toArray]); (try simp only [List.getElem_toArray]); (repeat (first | simp only [List.getElem_cons_succ] | simp only [List.getElem_cons_zero])); (repeat (first | simp only [List.set_cons_succ] | simp only [List.set_cons_zero]))
         refine wpAnyH_take (i := 5) (v := ?_) rfl (by kernel_rfl) (by kernel_rfl) (by kernel_rfl) (fun _ _ _ h => h) (Or.inl ⟨by rfl, ?_⟩) hHeld ?_
         rotate_left
         · intro w hSw
           (try dsimp only at hSw)
           have y1 : w.cell? ⟨rb, 4, none⟩ = some (.func (.func 57) #[] #[]) := cell_of hSw.1 4
           go_simp
           try with_reducible rfl
         (try simp only [Act.put]); (try simp only [List.setIfInBounds_toArray]); (try simp only [List.getElem_toArray]); (repeat (first | simp only [List.getElem_cons_succ] | simp only [List.getElem_cons_zero])); (repeat (first | simp only [List.set_cons_succ] | simp only [List.set_cons_zero]))
         refine wpAnyH_take (i := 6) (v := ?_) rfl (by kernel_rfl) (by kernel_rfl) (by kernel_rfl) (fun _ _ _ h => h) (Or.inl ⟨by rfl, ?_⟩) hHeld ?_
         rotate_left
         · intro w hSw
           (try dsimp only at hSw)
           go_simp
           try with_reducible rfl
         (try simp only [Act.put]); (try simp only [List.setIfInBounds_toArray]); (try simp only [List.getElem_toArray]); (repeat (first | simp only [List.getElem_cons_succ] | simp only [List.getElem_cons_zero])); (repeat (first | simp only [List.set_cons_succ] | simp only [List.set_cons_zero]))
         refine wpAnyH_take (i := 7) (v := ?_) rfl (by kernel_rfl) (by kernel_rfl) (by kernel_rfl) (fun _ _ _ h => h) (Or.inl ⟨by rfl, ?_⟩) hHeld ?_
         rotate_left
         · intro w hSw
           (try dsimp only at hSw)
           have y0 : w.cell? ⟨bx, 0, none⟩ = some (.int .i64 xth) := cell_of hSw.2 0
           have y1 : w.cell? ⟨bx, 1, none⟩ = some (.int .u8 4) := cell_of hSw.2 1
           have y2 : w.cell? ⟨bx, 2, none⟩ = some (.int .u64 (xad : Int)) := cell_of hSw.2 2
           have y3 : w.cell? ⟨bx, 3, none⟩ = some (.int .u64 (xa : Int)) := cell_of hSw.2 3
           have y4 : w.cell? ⟨bx, 4, none⟩ = some (.int .u64 (xb : Int)) := cell_of hSw.2 4
           have y5 : w.cell? ⟨bx, 5, none⟩ = some (.slice vp vn vc) := cell_of hSw.2 5
           have y6 : w.cell? ⟨bx, 6, none⟩ = some (.int .u64 (xgot : Int)) := cell_of hSw.2 6
           have y7 : w.cell? ⟨bx, 7, none⟩ = some (.bool xok) := cell_of hSw.2 7
           go_simp
           try with_reducible rfl
         (try simp only [Act.put]); (try simp only [List.setIfInBounds_toArray]); (try simp only [List.getElem_toArray]); (repeat (first | simp only [List.getElem_cons_succ] | simp only [List.getElem_cons_zero])); (repeat (first | simp only [List.set_cons_succ] | simp only [List.set_cons_zero]))
         refine wpAnyH_ready (rs := [8]) (by kernel_rfl) (by simp) ?_
         refine AllReadyH.cons rfl (fun KK hKK => ?_) AllReadyH.nil
         go_simp
         refine (HCL.out _).mono ?_
         rintro e w5 ⟨rfl, hm⟩
         obtain ⟨hg, hx5⟩ := HNX.out _ _ hm
         have hr5 := hg.ret
         have HG := keepH hg
         clear hm hg
         refine hKK.out _ _ ?_ (fun hHeld => ?_)
         · exact ⟨hr5, hx5⟩
         clear hKK KK
         (try simp only [Act.put]); (try simp only [List.setIfInBounds_toArray]); (try simp only [List.getElem_toArray]); (repeat (first | simp only [List.getElem_cons_succ] | simp only [List.getElem_cons_zero])); (repeat (first | simp only [List.set_cons_succ] | simp only [List.set_cons_zero]))
         refine wpAnyH_take (i := 9) (v := ?_) rfl (by kernel_rfl) (by kernel_rfl) (by kernel_rfl) (fun _ _ _ h => h) (Or.inl ⟨by rfl, ?_⟩) hHeld ?_
         rotate_left
         · intro w hSw
           (try dsimp only at hSw)
           go_simp
           try with_reducible rfl
         (try simp only [Act.put]); (try simp only [List.setIfInBounds_toArray]); (try simp only [List.getElem_toArray]); (repeat (first | simp only [List.getElem_cons_succ] | simp only [List.getElem_cons_zero])); (repeat (first | simp only [List.set_cons_succ] | simp only [List.set_cons_zero]))
         refine wpAnyH_done (by kernel_rfl) ?_ _
         go_simp
         all_goals (
           clear hHeld
           cases R
           · go_wp2_with fail
             go_ret3
             refine ⟨_, rfl, ?_, Or.inr (Or.inl ⟨HAR.out, ?_, ?_⟩)⟩
             · obtain ⟨F', h1, _⟩ := HG.out.me
               exact h1.bel
             · rw [HMB.out HRR.out.symm, ← HN.out]; exact hlt
             · rw [HMB.out HRR.out.symm]; first | rfl | simp
           · go_wp2_with fail
             go_roundw
             case rel => exact ⟨i + 1, by omega, by first | rfl | go_num, keepH ⟨HMG.out HRR.out.symm, by rw [msAt_succ HX.out, ← HSS.out]; exact HG.out⟩⟩
             case measure => simp [intOf]; omega)
       · obtain ⟨w3, hw3⟩ : ∃ w3, w3 = wr.alloc (.cells #[.int .i64 xth, .int .u8 5, .int .u64 (xad : Int), .int .u64 (xa : Int), .int .u64 (xb : Int), .slice vp vn vc, .int .u64 (xgot : Int), .bool xok] 44) := ⟨_, rfl⟩
         have C3 : Below wr.heap.size wr w3 := by rw [hw3]; exact below_alloc _ _
         have X3 : w3.heap[bx]? = some (.cells #[.int .i64 xth, .int .u8 5, .int .u64 (xad : Int), .int .u64 (xa : Int), .int .u64 (xb : Int), .slice vp vn vc, .int .u64 (xgot : Int), .bool xok] 44 (0, 0)) := by rw [hw3, hbx]; exact heap_alloc_new _ _
         have HW3 := keepH hw3
         clear hw3
         have hTell : msTell n s ⟨xth, 5, xad, xa, xb, xvals, xgot, xok⟩ = decide (alAt n s.next xvals.length = xad) := rfl
         have HCL : Hid (∀ m, Calls Tryz.prog 59 #[.pointer (some ⟨v, 0, none⟩), .agg #[.int .i64 xth, .int .u8 5, .int .u64 (xad : Int), .int .u64 (xa : Int), .int .u64 (xb : Int), .slice vp vn vc, .int .u64 (xgot : Int), .bool xok]] (w3.drewN m) fun e w' => e = .returned (.bool (msTell n s ⟨xth, 5, xad, xa, xb, xvals, xgot, xok⟩)) ∧ MEx W v b n (msStep n s ⟨xth, 5, xad, xa, xb, xvals, xgot, xok⟩) (i + 1) F (w3.drewN m) w') := keepH (fun m => by
           have hb : Below wr.heap.size wr (w3.drewN m) := below_drewN C3 m
           have e := rt_5 (hME.on hb) (by omega) xth 5 xad xa xb xgot vn vc vp xok xvals hvn (hu.on hb) hne o5 hvl o1 o2 o3
           rw [show decide (alAt n s.next vn = xad) = msTell n s ⟨xth, 5, xad, xa, xb, xvals, xgot, xok⟩ from by rw [hTell, hvn]] at e
           exact e)
         obtain ⟨R, hR⟩ : ∃ R, R = msTell n s ⟨xth, 5, xad, xa, xb, xvals, xgot, xok⟩ := ⟨_, rfl⟩
         rw [← hR] at HCL
         have HRR : Hid (R = msTell n s ⟨xth, 5, xad, xa, xb, xvals, xgot, xok⟩) := keepH hR
         have HNX : Hid (∀ m w', MEx W v b n (msStep n s ⟨xth, 5, xad, xa, xb, xvals, xgot, xok⟩) (i + 1) F (w3.drewN m) w' → GT W mm v b n rb (msStep n s ⟨xth, 5, xad, xa, xb, xvals, xgot, xok⟩) (i + 1) w' ∧ w'.heap[bx]? = some (.cells #[.int .i64 xth, .int .u8 5, .int .u64 (xad : Int), .int .u64 (xa : Int), .int .u64 (xb : Int), .slice vp vn vc, .int .u64 (xgot : Int), .bool xok] 44 (0, 0))) := keepH (fun m w' hx => ⟨((HI'.out.on C3).on (below_drewN (Below.refl _ _) m)).next hFr hFm hx, hx.box hME hbx X3⟩)
         have hret := (HI'.out.on C3).ret
         have HS0 : Hid (w3.heap[rb]? = some (.cells retC 128 (0, 0)) ∧ w3.heap[bx]? = some (.cells #[.int .i64 xth, .int .u8 5, .int .u64 (xad : Int), .int .u64 (xa : Int), .int .u64 (xb : Int), .slice vp vn vc, .int .u64 (xgot : Int), .bool xok] 44 (0, 0))) := keepH ⟨hret, X3⟩
         clear hTell hR hret hME C3 X3 hFr hFm hne hu o1 o2 o3 o5 hvl hvn
         go_upto_region 11 with fail
         rw [← HW3.out, ← hbx]
         clear hbx a0 a1 a2 a3 a4 a5 a6 a7
         refine wp_region_held_drew (S := fun w' => w'.heap[rb]? = some (.cells retC 128 (0, 0)) ∧ w'.heap[bx]? = some (.cells #[.int .i64 xth, .int .u8 5, .int .u64 (xad : Int), .int .u64 (xa : Int), .int .u64 (xb : Int), .slice vp vn vc, .int .u64 (xgot : Int), .bool xok] 44 (0, 0))) (by kernel_rfl) (HS0.out) ?_
         intro hHeld
         refine wpAnyH_take (i := 0) (v := ?_) rfl (by kernel_rfl) (by kernel_rfl) (by kernel_rfl) (fun _ _ _ h => h) (Or.inl ⟨by rfl, ?_⟩) hHeld ?_
         rotate_left
         · intro w hSw
           (try dsimp only at hSw)
           go_simp
           try with_reducible rfl
         (try simp only [Act.put]); (try simp only [List.setIfInBounds_toArray]); (try simp only [List.getElem_toArray]); (repeat (first | simp only [List.getElem_cons_succ] | simp only [List.getElem_cons_zero])); (repeat (first | simp only [List.set_cons_succ] | simp only [List.set_cons_zero]))
         refine wpAnyH_take (i := 1) (v := ?_) rfl (by kernel_rfl) (by kernel_rfl) (by kernel_rfl) (fun _ _ _ h => h) (Or.inl ⟨by rfl, ?_⟩) hHeld ?_
         rotate_left
         · intro w hSw
           (try dsimp only at hSw)
           go_simp
           try with_reducible rfl
         (try simp only [Act.put]); (try simp only [List.setIfInBounds_toArray]); (try simp only [List.getElem_toArray]); (repeat (first | simp only [List.getElem_cons_succ] | simp only [List.getElem_cons_zero])); (repeat (first | simp only [List.set_cons_succ] | simp only [List.set_cons_zero]))
         refine wpAnyH_take (i := 2) (v := ?_) rfl (by kernel_rfl) (by kernel_rfl) (by kernel_rfl) (fun _ _ _ h => h) (Or.inl ⟨by rfl, ?_⟩) hHeld ?_
         rotate_left
         · intro w hSw
           (try dsimp only at hSw)
           have y1 : w.cell? ⟨bx, 1, none⟩ = some (.int .u8 5) := cell_of hSw.2 1
           go_simp
           try with_reducible rfl
         (try simp only [Act.put]); (try simp only [List.setIfInBounds_toArray]); (try simp only [List.getElem_toArray]); (repeat (first | simp only [List.getElem_cons_succ] | simp only [List.getElem_cons_zero])); (repeat (first | simp only [List.set_cons_succ] | simp only [List.set_cons_zero]))
         refine wpAnyH_take (i := 3) (v := ?_) rfl (by kernel_rfl) (by kernel_rfl) (by kernel_rfl) (fun _ _ _ h => h) (Or.inl ⟨by rfl, ?_⟩) hHeld ?_
         rotate_left
         · intro w hSw
           (try dsimp only at hSw)
           go_simp
           try with_reducible rfl
         (try simp only [Act.put]); (try simp only [List.setIfInBounds_toArray]); (try simp only [List.getElem_toArray]); (repeat (first | simp only [List.getElem_cons_succ] | simp only [List.getElem_cons_zero])); (repeat (first | simp only [List.set_cons_succ] | simp only [List.set_cons_zero]))
         refine wpAnyH_take (i := 4) (v := ?_) rfl (by kernel_rfl) (by kernel_rfl) (by kernel_rfl) (fun _ _ _ h => h) (Or.inl ⟨by rfl, ?_⟩) hHeld ?_
         rotate_left
         · intro w hSw
           (try dsimp only at hSw)
           go_simp
           try with_reducible rfl
         (try simp only [Act.put]); (try simp only [List.setIfInBounds_toArray]); (try simp only [List.getElem_toArray]); (repeat (first | simp only [List.getElem_cons_succ] | simp only [List.getElem_cons_zero])); (repeat (first | simp only [List.set_cons_succ] | simp only [List.set_cons_zero]))
         refine wpAnyH_take (i := 5) (v := ?_) rfl (by kernel_rfl) (by kernel_rfl) (by kernel_rfl) (fun _ _ _ h => h) (Or.inl ⟨by rfl, ?_⟩) hHeld ?_
         rotate_left
         · intro w hSw
           (try dsimp only at hSw)
           have y1 : w.cell? ⟨rb, 5, none⟩ = some (.func (.func 59) #[] #[]) := cell_of hSw.1 5
           go_simp
           try with_reducible rfl
         (try simp only [Act.put]); (try simp only [List.setIfInBounds_toArray]); (try simp only [List.getElem_toArray]); (repeat (first | simp only [List.getElem_cons_succ] | simp only [List.getElem_cons_zero])); (repeat (first | simp only [List.set_cons_succ] | simp only [List.set_cons_zero]))
         refine wpAnyH_take (i := 6) (v := ?_) rfl (by kernel_rfl) (by kernel_rfl) (by kernel_rfl) (fun _ _ _ h => h) (Or.inl ⟨by rfl, ?_⟩) hHeld ?_
         rotate_left
         · intro w hSw
           (try dsimp only at hSw)
           go_simp
           try with_reducible rfl
         (try simp only [Act.put]); (try simp only [List.setIfInBounds_toArray]); (try simp only [List.getElem_toArray]); (repeat (first | simp only [List.getElem_cons_succ] | simp only [List.getElem_cons_zero])); (repeat (first | simp only [List.set_cons_succ] | simp only [List.set_cons_zero]))
         refine wpAnyH_take (i := 7) (v := ?_) rfl (by kernel_rfl) (by kernel_rfl) (by kernel_rfl) (fun _ _ _ h => h) (Or.inl ⟨by rfl, ?_⟩) hHeld ?_
         rotate_left
         · intro w hSw
           (try dsimp only at hSw)
           have y0 : w.cell? ⟨bx, 0, none⟩ = some (.int .i64 xth) := cell_of hSw.2 0
           have y1 : w.cell? ⟨bx, 1, none⟩ = some (.int .u8 5) := cell_of hSw.2 1
           have y2 : w.cell? ⟨bx, 2, none⟩ = some (.int .u64 (xad : Int)) := cell_of hSw.2 2
           have y3 : w.cell? ⟨bx, 3, none⟩ = some (.int .u64 (xa : Int)) := cell_of hSw.2 3
           have y4 : w.cell? ⟨bx, 4, none⟩ = some (.int .u64 (xb : Int)) := cell_of hSw.2 4
           have y5 : w.cell? ⟨bx, 5, none⟩ = some (.slice vp vn vc) := cell_of hSw.2 5
           have y6 : w.cell? ⟨bx, 6, none⟩ = some (.int .u64 (xgot : Int)) := cell_of hSw.2 6
           have y7 : w.cell? ⟨bx, 7, none⟩ = some (.bool xok) := cell_of hSw.2 7
           go_simp
           try with_reducible rfl
         (try simp only [Act.put]); (try simp only [List.setIfInBounds_toArray]); (try simp only [List.getElem_toArray]); (repeat (first | simp only [List.getElem_cons_succ] | simp only [List.getElem_cons_zero])); (repeat (first | simp only [List.set_cons_succ] | simp only [List.set_cons_zero]))
         refine wpAnyH_ready (rs := [8]) (by kernel_rfl) (by simp) ?_
         refine AllReadyH.cons rfl (fun KK hKK => ?_) AllReadyH.nil
         go_simp
         refine (HCL.out _).mono ?_
         rintro e w5 ⟨rfl, hm⟩
         obtain ⟨hg, hx5⟩ := HNX.out _ _ hm
         have hr5 := hg.ret
         have HG := keepH hg
         clear hm hg
         refine hKK.out _ _ ?_ (fun hHeld => ?_)
         · exact ⟨hr5, hx5⟩
         clear hKK KK
         (try simp only [Act.put]); (try simp only [List.setIfInBounds_toArray]); (try simp only [List.getElem_toArray]); (repeat (first | simp only [List.getElem_cons_succ] | simp only [List.getElem_cons_zero])); (repeat (first | simp only [List.set_cons_succ] | simp only [List.set_cons_zero]))
         refine wpAnyH_take (i := 9) (v := ?_) rfl (by kernel_rfl) (by kernel_rfl) (by kernel_rfl) (fun _ _ _ h => h) (Or.inl ⟨by rfl, ?_⟩) hHeld ?_
         rotate_left
         · intro w hSw
           (try dsimp only at hSw)
           go_simp
           try with_reducible rfl
         (try simp only [Act.put]); (try simp only [List.setIfInBounds_toArray]); (try simp only [List.getElem_toArray]); (repeat (first | simp only [List.getElem_cons_succ] | simp only [List.getElem_cons_zero])); (repeat (first | simp only [List.set_cons_succ] | simp only [List.set_cons_zero]))
         refine wpAnyH_done (by kernel_rfl) ?_ _
         go_simp
         all_goals (
           clear hHeld
           cases R
           · go_wp2_with fail
             go_ret3
             refine ⟨_, rfl, ?_, Or.inr (Or.inl ⟨HAR.out, ?_, ?_⟩)⟩
             · obtain ⟨F', h1, _⟩ := HG.out.me
               exact h1.bel
             · rw [HMB.out HRR.out.symm, ← HN.out]; exact hlt
             · rw [HMB.out HRR.out.symm]; first | rfl | simp
           · go_wp2_with fail
             go_roundw
             case rel => exact ⟨i + 1, by omega, by first | rfl | go_num, keepH ⟨HMG.out HRR.out.symm, by rw [msAt_succ HX.out, ← HSS.out]; exact HG.out⟩⟩
             case measure => simp [intOf]; omega)
     · have q1 : ¬ (i : Int) < (N : Int) := by omega
       obtain rfl : i = N := by omega
       go_wp2_with fail
       go_ret3
       obtain ⟨F, hME, hFr, hFm⟩ := HI.out.2.me
       obtain ⟨made, l, _, _, hv, hB⟩ := hME.vb
       have e1 : msAt n ⟨1, []⟩ xs i = msEnd n ⟨1, []⟩ xs := by unfold msAt; rw [HN.out, List.take_length]
       rw [e1] at hB
       refine ⟨_, rfl, hME.bel, Or.inl ⟨mm, b, F, l, ?_, HAR.out, ?_, HI.out.2.mem, hB, hME.new, ?_⟩⟩
       · rw [← HN.out]; rfl
       · exact msBad_all (fun j y hj hy => HI.out.1 j y (by rw [HN.out]; exact hj) hy)
       · exact HMM.out
  · have q1 : (wi : Int) < (N : Int) := by have := wrongI_lt hall; rw [← HWI.out, ← HN.out] at this; omega
    have HAR := keepH hall
    clear hall
    go_wp2_with fail
    go_ret3
    exact ⟨_, rfl, H3.out.1, Or.inr (Or.inr ⟨HAR.out, by rw [← HWI.out]; rfl⟩)⟩
end Go.Proofs.YtjodechhnobkhaaGreatDoor
