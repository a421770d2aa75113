/- What stands behind the numbers of an access's text: yes or no, or any number of values. -/
import Derived.Test.YtdgagpcofghbaaaGreatDoorRpi
namespace Go.Proofs.YtdgagpcofghbaaaGreatDoor
open Go.RowKit Go.Shelf
set_option linter.unusedVariables false

/-- texts that lie in a row -/
def SRd (W : World) (q : Option Addr) (fs : List (List UInt8)) : Prop :=
  ∃ fb off, q = some ⟨fb, off, none⟩ ∧ fb < W.heap.size ∧ ∀ (j : Nat) f, fs[j]? = some f → W.cell? ⟨fb, off + j, none⟩ = some (.string (mkS f))
theorem SRd.on {W X : World} {q : Option Addr} {fs : List (List UInt8)} (h : SRd W q fs) (hb : Below W.heap.size W X) : SRd X q fs := by
  obtain ⟨fb, off, rfl, hl, h⟩ := h
  exact ⟨fb, off, rfl, Nat.lt_of_lt_of_le hl hb.size, fun i x hx => cell_below (h i x hx) hb⟩
theorem SRd.chg {W X : World} {F : Nat → Prop} {q : Option Addr} {fs : List (List UInt8)} (h : SRd W q fs) (hc : Chg F W X) (hF : ∀ a, q = some a → ¬ F a.block) : SRd X q fs := by
  obtain ⟨fb, off, rfl, hl, h⟩ := h
  refine ⟨fb, off, rfl, Nat.lt_of_lt_of_le hl hc.size, fun i x hx => ?_⟩
  have e := h i x hx
  simp only [World.cell?] at e ⊢
  rw [hc.block fb hl (hF _ rfl)]
  exact e
theorem slice_strs {W : World} {q : Option Addr} {fs : List (List UInt8)} (h : SRd W q fs) {n cap i : Nat} (hn : n = fs.length) (hcap : n ≤ cap) (hi : i ≤ n) :
    ∃ ad : Addr, (∀ w, (Instr.slice 56 (.slice q n cap) (some (.int .i64 (i : Int))) none none).run Tryz.prog w = .ok (.slice (some ad) (n - i) (cap - i)) w) ∧ SRd W (some ad) (fs.drop i) ∧ (∀ a, q = some a → ad.block = a.block) := by
  obtain ⟨fb, off, rfl, hl, h⟩ := h
  by_cases e : cap = i
  · refine ⟨⟨fb, off, none⟩, fun w => ?_, ⟨fb, off, rfl, hl, fun j f hf => ?_⟩, fun a ha => by injection ha with ha; rw [← ha]⟩
    · have hn : n = i := by omega
      have hb := run_sliceBound (P := Tryz.prog) (w := w) .i64 (i : Int) i .sliceB (by omega) (by omega)
      simp [Instr.slice, run_underlying Tryz.underlying56, Instr.sliceBounds, Result.andThen, e, hn, hb]
    · rw [List.drop_eq_nil_of_le (by omega)] at hf
      simp at hf
  · refine ⟨⟨fb, off + i, none⟩, fun w => ?_, ⟨fb, off + i, rfl, hl, fun j f hf => ?_⟩, fun a ha => by injection ha with ha; rw [← ha]⟩
    · have hb := run_sliceBound (P := Tryz.prog) (w := w) .i64 (i : Int) n .sliceB (by omega) (by omega)
      simp [Instr.slice, run_underlying Tryz.underlying56, Instr.sliceBounds, Result.andThen, e, hb, Addr.add]
    · rw [List.getElem?_drop] at hf
      rw [Nat.add_assoc]
      exact h _ f hf

/-- readOk: what it tells, and what it leaves -/
structure OkP (W : World) (B : Nat) (th : Int) (k ad a b : Nat) (vs : Value) (got : Nat) (fs : List (List UInt8)) (r : Bool) (W' : World) : Prop where
  chg : Chg (fun x => x = B) W W'
  yes : ∀ q, tailP 3 fs = some q → r = true ∧ W'.heap[B]? = some (.cells (accC th k ad a b vs got q.1) 36 (0, 0))
  no : tailP 3 fs = none → r = false
def OkQ (W : World) (B : Nat) (th : Int) (k ad a b : Nat) (vs : Value) (got : Nat) (fs : List (List UInt8)) (v : Value) (W' : World) : Prop := ∃ r, v = .bool r ∧ OkP W B th k ad a b vs got fs r W'
set_option maxRecDepth 100000 in
set_option maxHeartbeats 2000000 in
theorem read_ok (B c : Nat) (q : Option Addr) (th : Int) (k ad a b got : Nat) (vs : Value) (ok0 : Bool) (fs : List (List UInt8)) (W : World) (hB : W.heap[B]? = some (.cells (accC th k ad a b vs got ok0) 36 (0, 0))) (hs : SRd W q fs) (hne : ∀ x, q = some x → x.block ≠ B) (hl : fs.length ≤ 200000000) :
    Calls Tryz.prog 55 #[.pointer (some ⟨B, 0, none⟩), .slice q fs.length c] W fun e W' => ∃ v, e = .returned v ∧ OkQ W B th k ad a b vs got fs v W' := by
  by_cases h1 : fs.length = 1
  · obtain ⟨f, rfl⟩ : ∃ f, fs = [f] := by
      match fs, h1 with
      | [f], _ => exact ⟨f, rfl⟩
    obtain ⟨fb, off, rfl, hfl, hc⟩ := hs
    have c0 : W.cell? ⟨fb, off, none⟩ = some (.string (mkS f)) := hc 0 f rfl
    have hbne : fb ≠ B := hne _ rfl
    have q1 : ((mkS f).toList == (mkS (okL true)).toList) = decide (f = okL true) := beq_mkS _ _
    have q2 : ∀ b, ((mkS f).toList == (mkS (okL b)).toList) = decide (f = okL b) := fun b => beq_mkS _ _
    have hset : ∀ v, W.setCell ⟨B, 7, none⟩ (.bool v) = W.setCell ⟨B, 7, none⟩ (.bool v) := fun v => rfl
    have X1 : ∀ v, (W.setCell ⟨B, 7, none⟩ (.bool v)).heap[B]? = some (.cells (accC th k ad a b vs got v) 36 (0, 0)) := fun v => set_of hB 7 (.bool v)
    have Y1 : ∀ v, (W.setCell ⟨B, 7, none⟩ (.bool v)).cell? ⟨fb, off, none⟩ = some (.string (mkS f)) := fun v => by
      rw [show (W.setCell ⟨B, 7, none⟩ (.bool v)).cell? ⟨fb, off, none⟩ = W.cell? ⟨fb, off, none⟩ from World.cell?_of_block (Below.heap_setCell _ _ _ _ (by simpa using hbne))]
      exact c0
    have C1 : ∀ v, Chg (fun x => x = B) W (W.setCell ⟨B, 7, none⟩ (.bool v)) := fun v => Chg.setCell (F := fun x => x = B) (Chg.refl _ W) (p := ⟨B, 7, none⟩) (fun _ => rfl) _
    have x7 : W.cell? ⟨B, 7, none⟩ = some (.bool ok0) := cell_of hB 7
    have y7 := free_of hB 7
    obtain ⟨s, hs⟩ : ∃ s, s = mkS f := ⟨_, rfl⟩
    rw [← hs] at c0 q1 q2
    have hyes : (⟨#[121, 101, 115]⟩ : ByteArray) = mkS (okL true) := rfl
    obtain ⟨d, hd⟩ : ∃ d, d = decide (f = okL true) := ⟨_, rfl⟩
    rw [← hd] at q1
    have q1' : (s.toList == [121, 101, 115]) = d := by rw [show ([121, 101, 115] : List UInt8) = (mkS (okL true)).toList from (mkS_toList _).symm]; exact q1
    clear q1
    obtain ⟨w1, hw1⟩ : ∃ w1, w1 = W.setCell ⟨B, 7, none⟩ (.bool d) := ⟨_, rfl⟩
    have x7' : w1.cell? ⟨B, 7, none⟩ = some (.bool d) := by rw [hw1]; exact cell_of (X1 d) 7
    have c0' : w1.cell? ⟨fb, off, none⟩ = some (.string s) := by rw [hw1, hs]; exact Y1 d
    have hok := fun m => ok_word d (w1.drewN m)
    have q2' := q2 d
    obtain ⟨so, hso⟩ : ∃ s, s = mkS (okL d) := ⟨_, rfl⟩
    rw [← hso] at q2' hok
    obtain ⟨r, hr⟩ : ∃ r, r = decide (f = okL d) := ⟨_, rfl⟩
    rw [← hr] at q2'
    have HE : Hid (∀ m, OkP W B th k ad a b vs got [f] r (w1.drewN m)) := keepH (fun m => by
      have hc : Chg (fun x => x = B) W (w1.drewN m) := by
        rw [hw1]
        have := C1 d
        exact ⟨this.os, this.tape, this.output, this.size, this.block⟩
      refine ⟨hc, fun q hq => ?_, fun hq => ?_⟩
      · by_cases e1 : f = okL true
        · have ed : d = true := by rw [hd]; exact decide_eq_true e1
          have eq : tailP 3 [f] = some (true, []) := by rw [e1]; rfl
          rw [hq] at eq
          injection eq with eq
          subst eq
          refine ⟨by rw [hr, ed]; exact decide_eq_true e1, ?_⟩
          have := X1 d
          rw [← hw1, ed] at this
          exact this
        · have ed : d = false := by rw [hd]; exact decide_eq_false e1
          by_cases e2 : f = okL false
          · have eq : tailP 3 [f] = some (false, []) := by rw [e2]; rfl
            rw [hq] at eq
            injection eq with eq
            subst eq
            refine ⟨by rw [hr, ed]; exact decide_eq_true e2, ?_⟩
            have := X1 d
            rw [← hw1, ed] at this
            exact this
          · exfalso
            have eq : tailP 3 [f] = none := by simp [tailP, e1, e2]
            rw [eq] at hq
            cases hq
      · by_cases e1 : f = okL true
        · exfalso
          have eq : tailP 3 [f] = some (true, []) := by rw [e1]; rfl
          rw [eq] at hq
          cases hq
        · have ed : d = false := by rw [hd]; exact decide_eq_false e1
          rw [hr, ed]
          refine decide_eq_false (fun e2 => ?_)
          have eq : tailP 3 [f] = some (false, []) := by rw [e2]; rfl
          rw [eq] at hq
          cases hq)
    have HOK := keepH hok
    clear hB hc hne hset X1 Y1 C1 q2 hyes hd hso hr hs hok hl hfl
    go_enter Tryz.func55, Tryz.ntmps55
    go_upto_region 4 with fail
    rw [← hw1]
    clear hw1 x7 y7 c0
    go_quiet ((go_at_call 35; refine (HOK.out _).mono ?_; rintro x y ⟨rfl, rfl⟩; exact ⟨rfl, _, rfl⟩))
    go_wp2_with fail
    go_ret
    exact ⟨_, rfl, r, rfl, HE.out _⟩
  · obtain ⟨n, hn⟩ : ∃ n, n = fs.length := ⟨_, rfl⟩
    rw [← hn] at h1 hl ⊢
    have q1 : ((n : Int) == 1) = false := by simp; omega
    have HN := keepH hn
    have HH1 := keepH h1
    clear hn h1 hB hs
    go_enter Tryz.func55, Tryz.ntmps55
    go_wp2_with fail
    go_ret
    refine ⟨_, rfl, false, rfl, Chg.refl _ _, fun q hq => ?_, fun _ => rfl⟩
    exfalso
    have hne1 : ∀ z, fs ≠ [z] := fun z e => HH1.out (by rw [HN.out, e]; rfl)
    simp [tailP, hne1] at hq

/-- readValues: what it tells, and what it leaves -/
structure VaP (W : World) (B : Nat) (th : Int) (k ad a b got : Nat) (ok : Bool) (fs : List (List UInt8)) (r : Bool) (W' : World) : Prop where
  chg : Chg (fun x => x = B) W W'
  yes : ∀ us, natsP fs = some us → r = true ∧ ∃ vs, W'.heap[B]? = some (.cells (accC th k ad a b vs got ok) 36 (0, 0)) ∧ W'.ownsRow 0 33 1 vs us.length (us.map fun (x : Nat) => Value.int .u64 (x : Int)) ∧ ∀ g, vs.ownBlock = some g → W.heap.size ≤ g
  no : natsP fs = none → r = false
def VaQ (W : World) (B : Nat) (th : Int) (k ad a b got : Nat) (ok : Bool) (fs : List (List UInt8)) (v : Value) (W' : World) : Prop := ∃ r, v = .bool r ∧ VaP W B th k ad a b got ok fs r W'
theorem infoUx : (Tryz.prog.info? 33).map (fun i => (i.zero, i.size, i.bytes)) = some (some (.int .u64 0), 1, 8) := by kernel_rfl
abbrev u64L (us : List Nat) : List Value := us.map fun (x : Nat) => Value.int .u64 (x : Int)
theorem natsP_take {fs : List (List UInt8)} {i u : Nat} {us : List Nat} {f : List UInt8} (h : natsP (fs.take i) = some us) (hf : fs[i]? = some f) (hu : natP f = some u) : natsP (fs.take (i + 1)) = some (us ++ [u]) := by
  obtain ⟨e, o⟩ := natsP_some h
  rw [List.take_add_one, hf, e]
  simp only [Option.toList]
  obtain ⟨e1, o1⟩ := natP_some hu
  rw [e1, show us.map Lib.decDigits ++ [Lib.decDigits u] = (us ++ [u]).map Lib.decDigits by simp]
  refine natsP_dec _ (fun v hv => ?_)
  rcases List.mem_append.mp hv with q | q
  · exact o v q
  · simp at q; subst q; exact o1
theorem natsP_none : ∀ {fs : List (List UInt8)} {f : List UInt8}, f ∈ fs → natP f = none → natsP fs = none
  | [], f, h, _ => by simp at h
  | x :: r, f, h, hn => by
    rcases List.mem_cons.mp h with rfl | h
    · simp [natsP, hn]
    · simp only [natsP]
      rw [natsP_none h hn]
      split <;> rfl
structure VI (W : World) (B : Nat) (th : Int) (k ad a b got : Nat) (ok : Bool) (fs : List (List UInt8)) (i : Nat) (us : List Nat) (vs : Value) (wr : World) : Prop where
  chg : Chg (fun x => x = B) W wr
  box : wr.heap[B]? = some (.cells (accC th k ad a b vs got ok) 36 (0, 0))
  row : wr.ownsRow 0 33 1 vs us.length (u64L us)
  new : ∀ g, vs.ownBlock = some g → W.heap.size ≤ g
  ns : natsP (fs.take i) = some us
  bl : B < W.heap.size
theorem VI.on {W : World} {B : Nat} {th : Int} {k ad a b got : Nat} {ok : Bool} {fs : List (List UInt8)} {i : Nat} {us : List Nat} {vs : Value} {wr w2 : World} (h : VI W B th k ad a b got ok fs i us vs wr) (hb : Below wr.heap.size wr w2) : VI W B th k ad a b got ok fs i us vs w2 :=
  ⟨h.chg.trans (belowC hb) (fun _ _ x => x) (fun _ _ x => x.elim), heap_below h.box hb, row_kept h.row (fun k hk => hb.block k (row_lt h.row k hk)), h.new, h.ns, h.bl⟩
theorem VI.more {W : World} {B : Nat} {th : Int} {k ad a b got : Nat} {ok : Bool} {fs : List (List UInt8)} {i : Nat} {us : List Nat} {vs vs' : Value} {wr w2 : World} {f : List UInt8} {u : Nat} {o : Obj} (h : VI W B th k ad a b got ok fs i us vs wr) (hf : fs[i]? = some f) (hu : natP f = some u)
    (hr : w2.ownsRow 0 33 1 vs' (us.length + 1) (u64L us ++ [.int .u64 (u : Int)])) (hg : (wr.alloc o).grownBy w2 vs.ownBlock) (hw : vs'.ownBlock = vs.ownBlock ∨ vs'.ownBlock = some (wr.alloc o).heap.size) :
    VI W B th k ad a b got ok fs (i + 1) (us ++ [u]) vs' (w2.setCell ⟨B, 5, none⟩ vs') := by
  have h1 := h.on (below_alloc wr o)
  have hbn : vs.ownBlock ≠ some B := fun e => block_apart h1.row h1.box (by decide) e
  have hb2 : w2.heap[B]? = some (.cells (accC th k ad a b vs got ok) 36 (0, 0)) := (hg.block B (lt_of h1.box) (Ne.symm hbn)).trans h1.box
  have hz := h1.chg.size
  refine ⟨?_, set_of hb2 5 vs', ?_, ?_, natsP_take h.ns hf hu, h.bl⟩
  · have c1 : Chg (fun x => x = B) W w2 := h1.chg.grown hg (fun k e hk => by have := h.new k e; omega)
    exact Chg.setCell c1 (p := ⟨B, 5, none⟩) (fun _ => rfl) _
  · rw [List.length_append, show u64L (us ++ [u]) = u64L us ++ [.int .u64 (u : Int)] by simp [u64L]]
    refine row_kept hr (fun g hgg => ?_)
    refine Below.heap_setCell _ _ _ _ (fun e => ?_)
    have e' : g = B := e
    subst e'
    obtain ⟨cur, hcur⟩ := row_block hr g hgg
    rw [hb2] at hcur
    injection hcur with hcur
    injection hcur with _ ht
    revert ht; decide
  · intro g hgg
    rcases hw with e | e
    · rw [e] at hgg; exact h.new g hgg
    · rw [e] at hgg
      simp at hgg
      have := h.chg.size
      omega

theorem va_end {W : World} {B : Nat} {th : Int} {k ad a b got : Nat} {ok : Bool} {fs : List (List UInt8)} {i nl : Nat} {us : List Nat} {vs v2 : Value} {w2 w3 w5 : World} {f : List UInt8} {u : Nat} (h : VI W B th k ad a b got ok fs i us vs w2) (hw : w3 = w2.alloc (.cells #[.int .u64 (u : Int)] 33)) (hf : fs[i]? = some f) (hu : natP f = some u) (hnl : nl = us.length)
    (r1 : w5.ownsRow 0 33 1 v2 (nl + 1) (u64L us ++ [.int .u64 (u : Int)])) (r2 : w3.grownBy w5 vs.ownBlock) (r4 : v2.ownBlock = vs.ownBlock ∨ v2.ownBlock = some w3.heap.size) :
    ∃ ao an ac, v2 = .slice ao an ac ∧ VI W B th k ad a b got ok fs (i + 1) (us ++ [u]) v2 (w5.setCell ⟨B, 5, none⟩ v2) ∧ w5.cell? ⟨B, 5, none⟩ = some vs ∧ w5.frozen? ⟨B, 5, none⟩ = false := by
  subst hw
  subst hnl
  have hb : w5.heap[B]? = some (.cells (accC th k ad a b vs got ok) 36 (0, 0)) := by
    have hbn : vs.ownBlock ≠ some B := fun e => block_apart h.row h.box (by decide) e
    have h3 := alloc_of h.box (.cells #[.int .u64 (u : Int)] 33)
    exact (r2.block B (lt_of h3) (Ne.symm hbn)).trans h3
  obtain ⟨ao, an, ac, e⟩ : ∃ vp vn vc, v2 = .slice vp vn vc := by
    rcases r1.2 with ⟨hv, _⟩ | ⟨g, cap, cur, hv, _⟩
    · exact ⟨_, _, _, hv⟩
    · exact ⟨_, _, _, hv⟩
  exact ⟨ao, an, ac, e, h.more hf hu r1 r2 r4, cell_of hb 5, free_of hb 5⟩

set_option maxRecDepth 100000 in
set_option maxHeartbeats 2000000 in
theorem read_values (B c : Nat) (q : Option Addr) (th : Int) (k ad a b got : Nat) (ok : Bool) (fs : List (List UInt8)) (W : World) (hB : W.heap[B]? = some (.cells (accC th k ad a b (.slice none 0 0) got ok) 36 (0, 0))) (hs : SRd W q fs) (hne : ∀ x, q = some x → x.block ≠ B) (hl : fs.length ≤ 200000000) (hfl : ∀ f ∈ fs, f.length ≤ 200000000) (T : Tb W) (hTB : ∀ w', Chg (fun x => x = B) W w' → Tb w') :
    Calls Tryz.prog 56 #[.pointer (some ⟨B, 0, none⟩), .slice q fs.length c] W fun e W' => ∃ v, e = .returned v ∧ VaQ W B th k ad a b got ok fs v W' := by
  obtain ⟨i0, hi, hz0, hz1, hz2⟩ := info_parts infoUx
  have H0 : Hid (VI W B th k ad a b got ok fs 0 [] (.slice none 0 0) W) := keepH ⟨Chg.refl _ _, hB, World.ownsRow_nil _ _ _ _, fun g e => by simp [Value.ownBlock] at e, rfl, lt_of hB⟩
  obtain ⟨n, hn⟩ : ∃ n, n = fs.length := ⟨_, rfl⟩
  rw [← hn] at hl ⊢
  have HN := keepH hn
  have HS := keepH hs
  have HNE := keepH hne
  have HTB := keepH hTB
  have HFL := keepH hfl
  clear hn hB hs hne T hTB hfl
  go_enter Tryz.func56, Tryz.ntmps56
  go_wp2_with fail
  go_loopw [6, 7, 8, 11] (fun s6 s7 s8 s11 wr => ∃ (i : Nat) (us : List Nat) (vs : Value), i ≤ n ∧ us.length = i ∧ s11 = .int .i64 (i : Int) ∧ Hid (VI W B th k ad a b got ok fs i us vs wr)) (fun _ _ _ s11 _ => n - (intOf s11).toNat)
  case atStart => exact ⟨0, [], _, by omega, rfl, rfl, H0⟩
  case round =>
    obtain ⟨i, us, vs, hin, hul, rfl, HI⟩ := hrel
    by_cases hlt : i < n
    · have q1 : (i : Int) < (n : Int) := by omega
      have q0 : (0 : Int) ≤ (i : Int) := by omega
      obtain ⟨f, hf⟩ : ∃ f, fs[i]? = some f := ⟨fs[i]'(by rw [← HN.out]; exact hlt), List.getElem?_eq_getElem _⟩
      obtain ⟨fb, off, rfl, _, hc⟩ := HS.out.chg HI.out.chg HNE.out
      have c0 := hc i f hf
      have hna := natural_any f (HFL.out f (List.mem_of_getElem? hf)) wr (HTB.out wr HI.out.chg)
      obtain ⟨s, hs⟩ : ∃ s, s = mkS f := ⟨_, rfl⟩
      rw [← hs] at c0 hna
      have HF := keepH hf
      clear hs hf hc
      go_wp2_with fail
      refine hna.mono ?_
      rintro e w2 ⟨v, rfl, hv, C2⟩
      have H2 := keepH (HI.out.on C2)
      clear C2 hna c0
      rcases hv with ⟨u, hu, rfl⟩ | ⟨hu, u, rfl⟩
      · have x5 : w2.cell? ⟨B, 5, none⟩ = some vs := cell_of H2.out.box 5
        obtain ⟨vp, vn, vc, rfl⟩ : ∃ vp vn vc, vs = .slice vp vn vc := by
          rcases H2.out.row.2 with ⟨hv, _⟩ | ⟨g, cap, cur, hv, _⟩
          · exact ⟨_, _, _, hv⟩
          · exact ⟨_, _, _, hv⟩
        obtain ⟨nl, hnl⟩ : ∃ nl, nl = us.length := ⟨_, rfl⟩
        have HNL := keepH hnl
        have HRW : Hid (w2.ownsRow 0 33 1 (.slice vp vn vc) nl (u64L us)) := by rw [hnl]; exact H2.out.row
        have hn6 : nl ≤ 200000000 := by omega
        have HU := keepH hu
        have HUL := keepH hul
        clear hu hnl hul
        obtain ⟨w3, hw3⟩ : ∃ w3, w3 = w2.alloc (.cells #[.int .u64 (u : Int)] 33) := ⟨_, rfl⟩
        have HW3 := keepH hw3
        have HRW3 : Hid (w3.ownsRow 0 33 1 (.slice vp vn vc) nl (u64L us)) := by rw [hw3]; exact HRW.out.alloc _
        have HX3 : Hid (∀ j z, [Value.int .u64 (u : Int)][j]? = some z → w3.cell? ((⟨w2.heap.size, 0, none⟩ : Addr).add j) = some z) := by rw [hw3]; exact cells_newR w2 _ rfl #[.int .u64 (u : Int)] 33
        clear hw3
        go_wp2_with (first | (at_builtin; rw [← HW3.out]; refine wpList_append_own_at _ rfl _ _ 34 rfl 0 33 i0 (.int .u64 0) 1 8 Tryz.underlying34 hi hz0 hz1 hz2 rfl (by decide) (.slice vp vn vc) nl (u64L us) rfl HRW3.out ⟨w2.heap.size, 0, none⟩ 1 1 [.int .u64 (u : Int)] rfl rfl HX3.out (by intro z hz; simp at hz; rcases hz with rfl; rfl) (by unfold maxLen; omega) (by omega) (Nat.zero_le _) ?_; intro v2 w5 r1 r2 r3 r4; obtain ⟨ao, an, ac, rfl, hm, y5, z5⟩ := va_end H2.out HW3.out HF.out HU.out HNL.out r1 r2 r4; have HM := keepH hm; clear hm r1 r2 r3 r4) | go_in)
        go_roundw
        case rel => exact ⟨i + 1, us ++ [u], .slice ao an ac, by omega, by simp [HUL.out], by first | rfl | go_num, HM⟩
        case measure => simp [intOf]; omega
      · have HU := keepH hu
        clear hu
        go_wp2_with fail
        go_ret
        refine ⟨_, rfl, false, rfl, H2.out.chg, fun us' e => ?_, fun _ => rfl⟩
        rw [natsP_none (List.mem_of_getElem? HF.out) HU.out] at e
        cases e
    · have q1 : ¬ (i : Int) < (n : Int) := by omega
      obtain rfl : i = n := by omega
      go_wp2_with fail
      go_ret
      have hns := HI.out.ns
      rw [List.take_of_length_le (by rw [← HN.out]; omega)] at hns
      refine ⟨_, rfl, true, rfl, HI.out.chg, fun us' e => ?_, fun e => ?_⟩
      · rw [hns] at e
        injection e with e
        subst e
        exact ⟨rfl, vs, HI.out.box, HI.out.row, HI.out.new⟩
      · rw [hns] at e
        cases e
end Go.Proofs.YtdgagpcofghbaaaGreatDoor
