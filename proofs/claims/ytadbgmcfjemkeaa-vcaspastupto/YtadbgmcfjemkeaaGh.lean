/- Runs of procs: a Cas. -/
import Derived.Test.YtadbgmcfjemkeaaGi
namespace Go.Proofs.Ytadbgmcfjemkeaa
open Go.RowKit Go.Shelf
set_option linter.unusedVariables false

structure CasS where
  r : RS
  old : Nat
  now : Nat
  nx : Nat
  made : Nat
  sw : Bool
  er : Nat
def csL (s : CasS) : List Value := rdL s.r [.int .u64 (s.old : Int), .int .u64 (s.now : Int), .int .u8 (s.nx : Int), .int .u64 (s.made : Int), .bool s.sw, .int .i64 (s.er : Int)]
def alA (th : Int) (most next : Nat) (vals : List Nat) : Acc := ⟨th, 5, alAt most next vals.length, 0, 0, .slice none 0 0, vals, 0, false⟩
def CasS.aim (s : CasS) (ver nx : Nat) : CasS := { s with r := { s.r with f := { s.r.f with ver := ver, pos := 0 } }, nx := nx }
def CasS.comp (s : CasS) (r : RS) : CasS := if r.val = s.old ∧ s.old ≠ s.now then { s with r := r, nx := 1 } else { s with r := r, nx := 6, sw := decide (r.val = s.old) }
def CasS.grown (s : CasS) (a : Nat) : CasS := { s with made := a, nx := if a = 0 then 6 else 2, er := if a = 0 then 30 else s.er }
def CasS.told (s : CasS) (cs : List Nat) (cam : Nat) : CasS := { s with r := { s.r with f := { s.r.f with pos := tlP cs s.r.f.ver s.r.f.pos, st := tlS cs cam s.r.f.pos s.r.f.st } }, nx := if tlD cs s.r.f.ver s.r.f.pos then 6 else s.nx, sw := if s.nx = 4 then true else s.sw }
def casO (th : Int) (most next : Nat) (cs : List Nat) (cam obj : Nat) (s : CasS) : Out CasS :=
  if s.nx = 0 then (fun o : Out RS => if o.done then ⟨decide ((s.comp o.s).nx = 6), o.next, o.cs, o.acc, s.comp o.s⟩ else ⟨false, o.next, o.cs, o.acc, { s with r := o.s }⟩) (rdO th most next cs cam obj s.r)
  else if s.nx = 1 then ⟨decide (alAt most next 3 = 0), alNext most next 3, alN most next cs [s.now, 0, s.r.f.head], [alA th most next [s.now, 0, s.r.f.head]], s.grown (alAt most next 3)⟩
  else if s.nx = 2 then ⟨false, next, casN most cs obj s.r.f.head s.made, [csA th most cs obj s.r.f.head s.made], if casOk most cs obj s.r.f.head then s.aim s.made 4 else { s with nx := 3 }⟩
  else if s.nx = 3 then ⟨false, next, cs, [ldA th cs obj], s.aim (cellN cs obj) 5⟩
  else ⟨tlD cs s.r.f.ver s.r.f.pos, next, tlC most cs s.r.f.ver s.r.f.pos s.r.f.st, [tlA th most cs cam s.r.f.ver s.r.f.pos s.r.f.st], s.told cs cam⟩
def CasS.cok (s : CasS) : Prop := ((s.nx = 0 ∧ s.r.rok) ∨ s.nx = 1 ∨ s.nx = 2 ∨ s.nx = 3 ∨ ((s.nx = 4 ∨ s.nx = 5) ∧ s.r.f.pos ≤ 2)) ∧ s.r.f.st < 18446744073709551616 ∧ s.r.f.head < 18446744073709551616 ∧ s.now < 18446744073709551616 ∧ s.made < 18446744073709551616
section
variable {X0 X : World} {F0 D0 F D : Nat → Prop} {b v most next : Nat} {th : Int} {made : Nat} {cs : List Nat} {t : List Acc} {p cam obj : Nat} {ty : TypeId} {s : CasS}
theorem FH.inD {X : World} {D : Nat → Prop} {p : Nat} {ty : TypeId} {cam obj : Nat} {rest : List Value} {s : VS} (h : FH X D p ty cam obj rest s) : D p := by obtain ⟨_, _, _, hp⟩ := h; exact hp
theorem FH.aim {X Y : World} {D : Nat → Prop} {p : Nat} {ty : TypeId} {cam obj : Nat} {rest rest' : List Value} {s s' : VS} {clk : Value} (h : ∃ a, clk = .pointer a) (hp : D p) (B : Blk Y p ty (fndL cam s'.ver s'.pos clk obj s'.fpos s'.head rest')) (h0 : s'.pos = 0) : FH Y D p ty cam obj rest' s' := ⟨clk, B, Clk.none h (by omega), hp⟩
set_option maxHeartbeats 1000000 in
theorem as_cas (A : AS X0 X F0 D0 F D b v most next th made cs t) (H : FH X D p ty cam obj (csL s) s.r.f) (hf : s.cok) (hcam : cam < 18446744073709551616) (hobj : obj < 18446744073709551616) (h1 : made < 1099511627776) (h2 : t.length < 1099511627776) (o : Out CasS) (ho : casO th most next cs cam obj s = o) :
    Calls Try.prog 81 #[.pointer (some ⟨p, 0, none⟩), .pointer (some ⟨v, 0, none⟩)] X fun e Y => e = .returned (.bool o.done) ∧ ∃ F' D', AS X0 Y F0 D0 F' D' b v most o.next th (made + 1) o.cs (t ++ o.acc) ∧ FH Y D' p ty cam obj (csL o.s) o.s.r.f := by
  obtain ⟨hf, hst, hhd, hnow, hmd⟩ := hf
  have hp := H.inD
  obtain ⟨l, hB, l6, l7⟩ := H.cell
  rcases hf with ⟨h0, hr⟩ | h0 | h0 | h0 | ⟨h0, hpos⟩
  · have e : casO th most next cs cam obj s = _ := if_pos h0
    rw [e] at ho
    have c11 : l[11]? = some (.int .u8 0) := by rw [l7 4]; simp [csL, rdL, h0]
    obtain ⟨q, hq⟩ : ∃ q, rdO th most next cs cam obj s.r = q := ⟨_, rfl⟩
    rw [hq] at ho
    have T := as_read A H hr hcam hobj hst hhd h1 h2 q hq
    cases hd : q.done
    · rw [hd] at T
      simp only [hd] at ho
      subst ho
      refine (cas_readF hB c11 _ _ T (fun w hw => by obtain ⟨F', D', _, H'⟩ := hw; obtain ⟨l', B', _, l7'⟩ := H'.cell; exact ⟨l', B', by rw [l7' 4]; simp [rdL, h0]⟩)).mono ?_
      rintro e Y ⟨rfl, F', D', A', H'⟩
      exact ⟨rfl, F', D', A', H'⟩
    · rw [hd] at T
      simp only [hd, if_true] at ho
      subst ho
      have T2 := T
      obtain ⟨L2, hL2⟩ : ∃ L2 : List Value, L2 = rdL q.s [.int .u64 (s.old : Int), .int .u64 (s.now : Int), .int .u8 (s.nx : Int), .int .u64 (s.made : Int), .bool s.sw, .int .i64 (s.er : Int)] := ⟨_, rfl⟩
      rw [← hL2] at T
      by_cases hg : q.s.val = s.old ∧ s.old ≠ s.now
      · refine (cas_goG hB c11 _ (fun w => ∃ F' D', AS X0 w F0 D0 F' D' b v most q.next th (made + 1) q.cs (t ++ q.acc) ∧ FH w D' p ty cam obj L2 q.s.f) T (x := s.old) (now := s.now) hg.2 (fun w hw => by
          obtain ⟨F', D', _, H'⟩ := hw
          obtain ⟨l', B', _, l7'⟩ := H'.cell
          exact ⟨l', B', by rw [l7' 1, hL2]; simp [rdL, hg.1], by rw [l7' 2, hL2]; simp [rdL], by rw [l7' 3, hL2]; simp [rdL], by rw [l7' 4, hL2]; simp [rdL, h0]⟩)).mono ?_
        rintro e Y ⟨rfl, w, ⟨F', D', A', H'⟩, CY, hY⟩
        refine ⟨by simp [CasS.comp, hg], F', D', A'.pchg H'.inD CY, ?_⟩
        obtain ⟨clk, B, C, hp'⟩ := H'
        have BY := hY _ B
        rw [hL2] at BY
        simp only [CasS.comp, if_pos hg]
        exact ⟨clk, BY, C.kept (fun _ e => e) (fun k hk e => CY.block k (A'.dis k hk).2.2 e), hp'⟩
      · refine (cas_endG hB c11 _ (fun w => ∃ F' D', AS X0 w F0 D0 F' D' b v most q.next th (made + 1) q.cs (t ++ q.acc) ∧ FH w D' p ty cam obj L2 q.s.f) T (x := q.s.val) (old := s.old) (now := s.now) (z := s.sw) (fun x => hg ⟨x.1, x.2⟩) (fun w hw => by
          obtain ⟨F', D', _, H'⟩ := hw
          obtain ⟨l', B', _, l7'⟩ := H'.cell
          exact ⟨l', B', by rw [l7' 1, hL2]; simp [rdL], by rw [l7' 2, hL2]; simp [rdL], by rw [l7' 3, hL2]; simp [rdL], by rw [l7' 4, hL2]; simp [rdL, h0], by rw [l7' 6, hL2]; simp [rdL]⟩)).mono ?_
        rintro e Y ⟨rfl, w, ⟨F', D', A', H'⟩, CY, hY⟩
        refine ⟨by simp [CasS.comp, hg], F', D', A'.pchg H'.inD CY, ?_⟩
        obtain ⟨clk, B, C, hp'⟩ := H'
        have BY := hY _ B
        rw [hL2] at BY
        simp only [CasS.comp, if_neg hg]
        exact ⟨clk, BY, C.kept (fun _ e => e) (fun k hk e => CY.block k (A'.dis k hk).2.2 e), hp'⟩
  · have e : casO th most next cs cam obj s = _ := (if_neg (by omega)).trans (if_pos h0)
    rw [e] at ho
    subst ho
    have c11 : l[11]? = some (.int .u8 1) := by rw [l7 4]; simp [csL, rdL, h0]
    obtain ⟨clk, B0, C0, _⟩ := H
    have A1 : AS X0 (X.setCell ⟨p, 11, none⟩ (.int .u8 2)).drew F0 D0 F D b v most next th made cs t := (A.setP hp _).drew
    have B1 : Blk (X.setCell ⟨p, 11, none⟩ (.int .u8 2)) p ty (l.set 11 (.int .u8 2)) := hB.set 11 _
    have G := grow_any (now := s.now) (head := s.r.f.head) (c := alAt most next 3) B0 rfl rfl ⟨_, rfl⟩ ⟨_, rfl⟩ ⟨_, rfl⟩ (.pointer (some ⟨v, 0, none⟩)) (fun w => ∃ F', AS X0 w F0 D0 F' D b v most (alNext most next 3) th (made + 1) (alN most next cs [s.now, 0, s.r.f.head]) (t ++ [alA th most next [s.now, 0, s.r.f.head]]) ∧ ∀ k, D k → w.heap[k]? = (X.setCell ⟨p, 11, none⟩ (.int .u8 2)).heap[k]?) (fun W1 e => by
        subst e
        exact A1.aloc [s.now, 0, s.r.f.head] X.heap.size 3 (by simp [World.setCell]) (fun x hx => by simp at hx; omega) (by simp) h1 h2) (fun w hw => by obtain ⟨F', _, hk⟩ := hw; exact (hk p hp).trans (B0.set 11 _))
    by_cases hz : alAt most next 3 = 0
    · refine (cas_grow0 hB c11 _ _ G (fun w hw => by obtain ⟨w0, _, _, B'⟩ := hw; rw [if_pos hz] at B'; exact ⟨_, B', rfl⟩)).mono ?_
      rintro e Y ⟨rfl, w, ⟨F', Aw, hk⟩, CY, B'⟩
      rw [if_pos hz] at B'
      refine ⟨by simp [hz], F', D, Aw.pchg hp CY, clk, ?_, C0.kept (fun _ e => e) (fun k hk' e => ?_), hp⟩
      · have : csL (s.grown (alAt most next 3)) = rdL s.r [.int .u64 (s.old : Int), .int .u64 (s.now : Int), .int .u8 6, .int .u64 ((alAt most next 3 : Nat) : Int), .bool s.sw, .int .i64 30] := by simp [csL, CasS.grown, hz]
        rw [this]
        exact B'
      · exact (CY.block k (Aw.dis k hk').2.2 e).trans ((hk k hk').trans (other_set _ e))
    · refine (cas_growT hB c11 _ _ 2 (by omega) G (fun w hw => by obtain ⟨w0, _, _, B'⟩ := hw; rw [if_neg hz] at B'; exact ⟨_, B', rfl⟩)).mono ?_
      rintro e Y ⟨rfl, w, ⟨F', Aw, hk⟩, CY, B'⟩
      rw [if_neg hz] at B'
      refine ⟨by simp [hz], F', D, Aw.pchg hp CY, clk, ?_, C0.kept (fun _ e => e) (fun k hk' e => ?_), hp⟩
      · have : csL (s.grown (alAt most next 3)) = rdL s.r [.int .u64 (s.old : Int), .int .u64 (s.now : Int), .int .u8 2, .int .u64 ((alAt most next 3 : Nat) : Int), .bool s.sw, .int .i64 (s.er : Int)] := by simp [csL, CasS.grown, hz]
        rw [this]
        exact B'
      · exact (CY.block k (Aw.dis k hk').2.2 e).trans ((hk k hk').trans (other_set _ e))
  · have e : casO th most next cs cam obj s = _ := ((if_neg (by omega)).trans (if_neg (by omega))).trans (if_pos h0)
    rw [e] at ho
    subst ho
    have c11 : l[11]? = some (.int .u8 2) := by rw [l7 4]; simp [csL, rdL, h0]
    obtain ⟨clk, B0, C0, _⟩ := H
    have CC := A.drew.cas obj s.r.f.head s.made hobj hmd h1 h2
    cases hd : casOk most cs obj s.r.f.head
    · rw [hd] at CC
      have S := swap_no B0 rfl ⟨_, rfl⟩ (.pointer (some ⟨v, 0, none⟩)) _ CC (fun w hw => by obtain ⟨F', _, hk⟩ := hw; exact (hk p hp).trans B0)
      refine (cas_swapT hB c11 _ _ 3 (by omega) S (fun w hw => by obtain ⟨w0, ⟨F', _, hk⟩, rfl⟩ := hw; exact ⟨_, Blk.set (show Blk w0 p ty _ from (hk p hp).trans B0) 11 _, rfl⟩)).mono ?_
      rintro e Y ⟨rfl, w, ⟨F', Aw, hk⟩, rfl⟩
      have Bw : Blk w p ty _ := (hk p hp).trans B0
      refine ⟨rfl, F', D, by simpa [csA, hd] using Aw.setP hp (.int .u8 3), ?_⟩
      simp only [Bool.false_eq_true, if_false]
      exact ⟨clk, Bw.set 11 (.int .u8 3), C0.kept (fun _ e => e) (fun k hk' e => (other_set _ e).trans (hk k hk')), hp⟩
    · rw [hd] at CC
      have S := swap_ok B0 rfl ⟨_, rfl⟩ (.pointer (some ⟨v, 0, none⟩)) _ CC (fun w hw => by obtain ⟨F', _, hk⟩ := hw; exact (hk p hp).trans B0)
      refine (cas_swapT hB c11 _ _ 4 (by omega) S (fun w hw => by obtain ⟨w0, _, _, B'⟩ := hw; exact ⟨_, B', rfl⟩)).mono ?_
      rintro e Y ⟨rfl, w, ⟨F', Aw, hk⟩, CY, B'⟩
      refine ⟨rfl, F', D, by simpa [csA, hd] using Aw.pchg hp CY, ?_⟩
      simp only [if_true]
      exact ⟨clk, B', Clk.none C0.1 (by simp [CasS.aim]), hp⟩
  · have e : casO th most next cs cam obj s = _ := (((if_neg (by omega)).trans (if_neg (by omega))).trans (if_neg (by omega))).trans (if_pos h0)
    rw [e] at ho
    subst ho
    obtain ⟨clk, B0, C0, _⟩ := H
    refine (cas_ahead (c := cellN cs obj) B0 (by show some _ = _; simp [h0]) _ _ (A.drew.load obj hobj h1 h2) (fun w hw => by obtain ⟨F', _, hk⟩ := hw; exact (hk p hp).trans B0)).mono ?_
    rintro e Y ⟨rfl, w, ⟨F', Aw, hk⟩, CY, B'⟩
    exact ⟨rfl, F', D, Aw.pchg hp CY, clk, B', Clk.none C0.1 (by simp [CasS.aim]), hp⟩
  · have e : casO th most next cs cam obj s = _ := (((if_neg (by omega)).trans (if_neg (by omega))).trans (if_neg (by omega))).trans (if_neg (by omega))
    rw [e] at ho
    subst ho
    obtain ⟨clk, B0, C0, _⟩ := H
    rcases h0 with h0 | h0
    · have c11 : l[11]? = some (.int .u8 4) := by rw [l7 4]; simp [csL, rdL, h0]
      have B1 : Blk (X.setCell ⟨p, 13, none⟩ (.bool true)) p ty (fndL cam s.r.f.ver s.r.f.pos clk obj s.r.f.fpos s.r.f.head (csL { s with sw := true })) := B0.set 13 _
      have C1 : Clk (X.setCell ⟨p, 13, none⟩ (.bool true)) D p cam s.r.f.pos s.r.f.st clk := C0.kept (fun _ e => e) (fun k _ e => other_set _ e)
      have T := as_tell (A.setP (i := 13) hp (.bool true)) hp B1 C1 hpos hcam hst h1 h2
      cases hd : tlD cs s.r.f.ver s.r.f.pos
      · rw [hd] at T
        refine (cas_ownF hB c11 ⟨s.sw, by rw [l7 6]; simp [csL, rdL]⟩ _ _ (fun W1 e => by subst e; exact T) (fun w hw => by obtain ⟨F', D', clk', _, _, B', _⟩ := hw; exact ⟨_, B', by show some _ = _; simp [h0]⟩)).mono ?_
        rintro e Y ⟨rfl, F', D', clk', A', hD, B', C'⟩
        refine ⟨rfl, F', D', A', clk', ?_, C', hD p hp⟩
        have : csL (s.told cs cam) = csL { s with sw := true } := by simp [csL, CasS.told, hd, h0, rdL]
        rw [this]
        exact B'
      · rw [hd] at T
        refine (cas_ownT hB c11 ⟨s.sw, by rw [l7 6]; simp [csL, rdL]⟩ _ _ (fun W1 e => by subst e; exact T) (fun w hw => by obtain ⟨F', D', clk', _, _, B', _⟩ := hw; exact ⟨_, B', by show some _ = _; simp [h0]⟩)).mono ?_
        rintro e Y ⟨rfl, w, ⟨F', D', clk', A', hD, B', C'⟩, rfl⟩
        have B2 := Blk.set B' 11 (.int .u8 6)
        refine ⟨rfl, F', D', A'.setP (hD p hp) _, clk', ?_, C'.kept (fun _ e => e) (fun k _ e => other_set _ e), hD p hp⟩
        have : csL (s.told cs cam) = rdL s.r [.int .u64 (s.old : Int), .int .u64 (s.now : Int), .int .u8 6, .int .u64 (s.made : Int), .bool true, .int .i64 (s.er : Int)] := by simp [csL, CasS.told, hd, h0, rdL]
        rw [this]
        exact B2
    · have c11 : l[11]? = some (.int .u8 5) := by rw [l7 4]; simp [csL, rdL, h0]
      have T := as_tell A hp B0 C0 hpos hcam hst h1 h2
      cases hd : tlD cs s.r.f.ver s.r.f.pos
      · rw [hd] at T
        refine (cas_otherF hB c11 _ _ T (fun w hw => by obtain ⟨F', D', clk', _, _, B', _⟩ := hw; exact ⟨_, B', by show some _ = _; simp [h0]⟩)).mono ?_
        rintro e Y ⟨rfl, F', D', clk', A', hD, B', C'⟩
        refine ⟨rfl, F', D', A', clk', ?_, C', hD p hp⟩
        have : csL (s.told cs cam) = csL s := by simp [csL, CasS.told, hd, h0, rdL]
        rw [this]
        exact B'
      · rw [hd] at T
        refine (cas_otherT hB c11 _ _ T (fun w hw => by obtain ⟨F', D', clk', _, _, B', _⟩ := hw; exact ⟨_, B', by show some _ = _; simp [h0]⟩)).mono ?_
        rintro e Y ⟨rfl, w, ⟨F', D', clk', A', hD, B', C'⟩, rfl⟩
        have B2 := Blk.set B' 11 (.int .u8 6)
        refine ⟨rfl, F', D', A'.setP (hD p hp) _, clk', ?_, C'.kept (fun _ e => e) (fun k _ e => other_set _ e), hD p hp⟩
        have : csL (s.told cs cam) = rdL s.r [.int .u64 (s.old : Int), .int .u64 (s.now : Int), .int .u8 6, .int .u64 (s.made : Int), .bool s.sw, .int .i64 (s.er : Int)] := by simp [csL, CasS.told, hd, h0, rdL]
        rw [this]
        exact B2
end
end Go.Proofs.Ytadbgmcfjemkeaa
