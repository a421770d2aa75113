/- The document's runner (shutterref04): what lies in memory; a new one. -/
import Derived.Test.YtkfmpebhibnniaaY9
import Derived.Test.YtkfmpebhibnniaaY8
import Derived.Test.YtkfmpebhibnniaaYf
import Derived.BigRegion
import Derived.Deep.CutRange
namespace Go.Proofs.Ytkfmpebhibnniaa
open Go.RowKit Go.Shelf
set_option linter.unusedVariables false

def intR (f : Nat → Nat) (T : Nat) : Array Value := ((List.range T).map (fun i => Value.int .i64 (f i : Int))).toArray
def valR (f : Nat → Value) (T : Nat) : Array Value := ((List.range T).map f).toArray
/-- The document's runner: its memory, each thread's call and how many steps that took; what it wrote down is its own. -/
structure D4At (X : World) (B : Nat) (tg : Nat → Nat) (r nm T st gc ga gg : Nat) (p : Option Addr) (c8 : Nat) (ev wv : Value) (es : List Ev) (ws : List Int) (gv : Nat → Value) (gl : Nat → List Nat) (R : Nat → Prop) (m : Mu) (t : List Acc) (call at_ : Nat → Nat) : Prop where
  blk : X.heap[r]? = some (.cells #[.pointer (some ⟨nm, 0, none⟩), .slice p T c8, .slice (some ⟨gc, 0, none⟩) T T, .slice (some ⟨ga, 0, none⟩) T T, .int .i64 (st : Int), ev, wv, .slice (some ⟨gg, 0, none⟩) T T] 120 (0, 0))
  cb : X.heap[gc]? = some (.cells (intR call T) 3 (0, 0))
  ab : X.heap[ga]? = some (.cells (intR at_ T) 3 (0, 0))
  gb : X.heap[gg]? = some (.cells (valR gv T) 49 (0, 0))
  er : X.ownsRow 0 112 4 ev es.length (evRow es)
  wr : X.ownsRow 0 3 1 wv ws.length (ws.map i64V)
  gr : ∀ i, i < T → X.ownsRow 0 51 1 (gv i) (gl i).length ((gl i).map u64V)
  rm : RM X R nm 200 m.next m.cs t
  tr : tg r = 1
  tc : tg gc = 2
  ta : tg ga = 3
  tG : tg gg = 4
  te : ∀ k, ev.ownBlock = some k → tg k = 5
  tw : ∀ k, wv.ownBlock = some k → tg k = 6
  tR : ∀ k, R k → tg k = 7
  tg_ : ∀ i k, i < T → (gv i).ownBlock = some k → tg k = 8 + i
  lo : ∀ k, tg k ≠ 0 → B ≤ k ∧ k < X.heap.size
  bd : es.length ≤ 2 * st ∧ ws.length ≤ t.length ∧ (∀ i, i < T → (gl i).length ≤ st) ∧ t.length ≤ st + 1 ∧ m.next ≤ 200 ∧ T ≤ 64
/-- All but what bears the tag x stays. -/
theorem D4At.keep {X Y : World} {B : Nat} {tg : Nat → Nat} {r nm T st gc ga gg : Nat} {p : Option Addr} {c8 : Nat} {ev wv : Value} {es : List Ev} {ws : List Int} {gv : Nat → Value} {gl : Nat → List Nat} {R : Nat → Prop} {m : Mu} {t : List Acc} {call at_ : Nat → Nat} (h : D4At X B tg r nm T st gc ga gg p c8 ev wv es ws gv gl R m t call at_) (hs : X.heap.size ≤ Y.heap.size) (hk : ∀ k, tg k ≠ 0 → Y.heap[k]? = X.heap[k]?) : D4At Y B tg r nm T st gc ga gg p c8 ev wv es ws gv gl R m t call at_ := by
  obtain ⟨l, hl1, hl2⟩ := h.rm
  obtain ⟨nc, av, os, hl1⟩ := hl1
  exact ⟨(hk r (by rw [h.tr]; decide)).trans h.blk, (hk gc (by rw [h.tc]; decide)).trans h.cb, (hk ga (by rw [h.ta]; decide)).trans h.ab, (hk gg (by rw [h.tG]; decide)).trans h.gb, row_kept h.er (fun k e => hk k (by rw [h.te k e]; decide)), row_kept h.wr (fun k e => hk k (by rw [h.tw k e]; decide)), fun i hi => row_kept (h.gr i hi) (fun k e => hk k (by rw [h.tg_ i k hi e]; omega)), ⟨l, ⟨nc, av, os, hl1.kept hs (fun k e => hk k (by rw [h.tR k e]; decide))⟩, hl2⟩, h.tr, h.tc, h.ta, h.tG, h.te, h.tw, h.tR, h.tg_, fun k e => ⟨(h.lo k e).1, by have := (h.lo k e).2; omega⟩, h.bd⟩
def D4 (X : World) (B r nm T st : Nat) (p : Option Addr) (c8 : Nat) (call at_ : Nat → Nat) (K : Nat → Prop) : Prop := ∃ tg gc ga gg ev wv es ws gv gl R m t, D4At X B tg r nm T st gc ga gg p c8 ev wv es ws gv gl R m t call at_ ∧ ∀ k, tg k ≠ 0 → K k
theorem D4.keep {X Y : World} {B r nm T st : Nat} {p : Option Addr} {c8 : Nat} {call at_ : Nat → Nat} {K : Nat → Prop} (h : D4 X B r nm T st p c8 call at_ K) (hs : X.heap.size ≤ Y.heap.size) (hk : ∀ k, K k → Y.heap[k]? = X.heap[k]?) : D4 Y B r nm T st p c8 call at_ K := by
  obtain ⟨tg, gc, ga, gg, ev, wv, es, ws, gv, gl, R, m, t, h, hK⟩ := h
  exact ⟨tg, gc, ga, gg, ev, wv, es, ws, gv, gl, R, m, t, h.keep hs (fun k e => hk k (hK k e)), hK⟩
theorem intR_get {f : Nat → Nat} {T i : Nat} (h : i < T) : (intR f T)[i]? = some (.int .i64 (f i : Int)) := by simp [intR, h]
set_option maxRecDepth 100000 in
/-- Has a thread something to do? -/
theorem d4_left {X : World} {B r nm T st : Nat} {p : Option Addr} {c8 : Nat} {call at_ : Nat → Nat} {K : Nat → Prop} (h : D4 X B r nm T st p c8 call at_ K) {ll : List (List PlP)} {ap : Nat → Option Addr} {ac : Nat → Nat} {lp : Nat → Nat → Option Addr} {lc : Nat → Nat → Nat} (hP : ThsAt X B p ll ap ac lp lc) (hT : ll.length = T) (cl : Nat → Nat) (hcl : ∀ i l, ll[i]? = some l → l.length = cl i) (th : Int) :
    Calls Try.prog 46 #[.pointer (some ⟨r, 0, none⟩), .int .i64 th] X fun e Y => e = .returned (.bool (decide (0 ≤ th ∧ th < (T : Int) ∧ call th.toNat < cl th.toNat))) ∧ ∃ q, Y = X.drewN q := by
  obtain ⟨tg, gc, ga, gg, ev, wv, es, ws, gv, gl, R, m, t, h, hK⟩ := h
  have c1 : X.cell? ⟨r, 1, none⟩ = some (.slice p T c8) := cell_of h.blk 1
  have c2 : X.cell? ⟨r, 2, none⟩ = some (.slice (some ⟨gc, 0, none⟩) T T) := cell_of h.blk 2
  have HP := keepH hP
  have HCB := keepH h.cb
  have HT := keepH hT
  have HCL := keepH hcl
  clear hP hT hcl
  by_cases h0 : 0 ≤ th
  · by_cases h1 : th < (T : Int)
    · obtain ⟨i, rfl⟩ : ∃ i : Nat, th = (i : Int) := ⟨th.toNat, by omega⟩
      have hi : i < T := by omega
      obtain ⟨l, hl⟩ : ∃ l, ll[i]? = some l := ⟨ll[i]'(by have := HT.out; omega), List.getElem?_eq_getElem _⟩
      obtain ⟨⟨bk, off, rfl, _, d0⟩, _⟩ := HP.out i l hl
      have d1 : X.cell? ⟨gc, i, none⟩ = some (.int .i64 (call i : Int)) := by rw [cell_of HCB.out i]; exact intR_get hi
      rw [HCL.out i l hl] at d0
      clear h hK hl
      by_cases h2 : call i < cl i
      · have t2 : (call i : Int) < (cl i : Int) := by omega
        have e2 : decide ((0 : Int) ≤ (i : Int) ∧ (i : Int) < (T : Int) ∧ call (i : Int).toNat < cl (i : Int).toNat) = true := decide_eq_true ⟨h0, h1, by simpa using h2⟩
        rw [e2]
        clear e2
        have q1 : decide (i < T) = true := decide_eq_true hi
        have q2 : decide (call i < cl i) = true := decide_eq_true h2
        go_enter Try.func46, Try.ntmps46
        go_upto_region 1 with fail
        go_quiet (fail)
        (try go_wp2_with fail)
        go_ret
        exact ⟨by simp, nq, rfl⟩
      · have t2 : ¬ (call i : Int) < (cl i : Int) := by omega
        have e2 : decide ((0 : Int) ≤ (i : Int) ∧ (i : Int) < (T : Int) ∧ call (i : Int).toNat < cl (i : Int).toNat) = false := decide_eq_false (fun z => h2 (by simpa using z.2.2))
        rw [e2]
        clear e2
        have q1 : decide (i < T) = true := decide_eq_true hi
        have q2 : decide (call i < cl i) = false := decide_eq_false h2
        go_enter Try.func46, Try.ntmps46
        go_upto_region 1 with fail
        go_quiet (fail)
        (try go_wp2_with fail)
        go_ret
        exact ⟨by simp, nq, rfl⟩
    · have e2 : decide ((0 : Int) ≤ th ∧ th < (T : Int) ∧ call th.toNat < cl th.toNat) = false := decide_eq_false (fun z => h1 z.2.1)
      rw [e2]
      clear e2 h hK
      have q1 : decide (0 ≤ th) = true := decide_eq_true h0
      have q2 : decide (th < (T : Int)) = false := decide_eq_false h1
      go_enter Try.func46, Try.ntmps46
      go_upto_region 1 with fail
      go_quiet (fail)
      (try go_wp2_with fail)
      go_ret
      exact ⟨by simp, nq, rfl⟩
  · have e2 : decide ((0 : Int) ≤ th ∧ th < (T : Int) ∧ call th.toNat < cl th.toNat) = false := decide_eq_false (fun z => h0 z.1)
    rw [e2]
    clear e2 h hK
    have q1 : decide (0 ≤ th) = false := decide_eq_false h0
    go_enter Try.func46, Try.ntmps46
    go_upto_region 1 with fail
    go_quiet (fail)
    (try go_wp2_with fail)
    go_ret
    exact ⟨by simp, nq, rfl⟩
end Go.Proofs.Ytkfmpebhibnniaa
