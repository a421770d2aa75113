/- Runs of procs: a Cut, step by step, and as a kind. -/
import Derived.Test.YtbjebnkfecjpnaaGk
import Derived.Test.YtbjebnkfecjpnaaKgG
namespace Go.Proofs.Ytbjebnkfecjpnaa
open Go.RowKit Go.Shelf
set_option linter.unusedVariables false

/-- What lies in memory of a Cut. -/
structure KH (X : World) (D : Nat → Prop) (p F : Nat) (q : Option Addr) (d : Nat) (l : List Nat) (s : CutS) : Prop where
  cut : IsCut X p F (.slice q l.length d) s
  row : U64At X q l
  ne : ∀ bk off, q = some ⟨bk, off, none⟩ → l ≠ [] → bk ≠ p
  inP : D p
  inQ : ∀ bk off, q = some ⟨bk, off, none⟩ → l ≠ [] → D bk
section
variable {X0 X Y : World} {F0 D0 F' D : Nat → Prop} {b v most next : Nat} {th : Int} {made : Nat} {cs : List Nat} {t : List Acc} {p F : Nat} {q : Option Addr} {d : Nat} {l : List Nat} {s : CutS}
theorem KH.kept (h : KH X D p F q d l s) (hk : ∀ k, D k → Y.heap[k]? = X.heap[k]?) : KH Y D p F q d l s := by
  refine ⟨(hk p h.inP).trans h.cut, ?_, h.ne, h.inP, h.inQ⟩
  rcases h.row with e | ⟨bk, off, rfl, hb, hc⟩
  · exact .inl e
  · by_cases e : l = []
    · exact .inl e
    · have hD := h.inQ bk off rfl e
      have hY : bk < Y.heap.size := by
        have h1 := hk bk hD
        rw [Array.getElem?_eq_getElem hb] at h1
        exact (Array.getElem?_eq_some_iff.1 h1).1
      refine .inr ⟨bk, off, rfl, hY, fun i y hi => ⟨(hc i y hi).1, ?_⟩⟩
      have := (hc i y hi).2
      unfold World.cell? at this ⊢
      simp only [] at this ⊢
      rw [hk bk hD]
      exact this
theorem KH.fin {s' : CutS} (h : KH X D p F q d l s) (c : Chg (fun k => k = p) X Y) (hc : IsCut Y p F (.slice q l.length d) s') : KH Y D p F q d l s' :=
  ⟨hc, h.row.chg c (fun bk off e hn => h.ne bk off e hn), h.ne, h.inP, h.inQ⟩
theorem as_cut (A : AS X0 X F0 D0 F' D b v most next th made cs t) (h : KH X D p F q d l s) (hbd : s.Bd) (hlen : l.length < 4611686018427387904) (h6 : s.nx ≤ 6) (hcn : s.cnt + 1 < 18446744073709551616) (h1 : made < 1099511627776) (h2 : t.length < 1099511627776) (o : List Nat × CutS × Acc) (ho : kstep th F l most cs s = o) :
    Calls Try.prog 16 #[.pointer (some ⟨p, 0, none⟩), .pointer (some ⟨v, 0, none⟩)] X fun e Y => e = .returned (.bool (decide (o.2.1.nx = 7))) ∧ ∃ F'' D', AS X0 Y F0 D0 F'' D' b v most next th (made + 1) o.1 (t ++ [o.2.2]) ∧ KH Y D' p F q d l o.2.1 := by
  obtain ⟨obj, nx, head, cnt, kept, kst, first, asked, ast⟩ := s
  simp only at h6 hcn
  have b1 : obj < 18446744073709551616 := hbd.obj
  have b2 : kept < 18446744073709551616 := hbd.kept
  have b3 : asked < 18446744073709551616 := hbd.asked
  have hp := h.inP
  have hld : ∀ a : Nat, a < 18446744073709551616 → Calls Try.prog 39 #[.pointer (some ⟨v, 0, none⟩), .int .u64 (a : Int)] X fun e w' => e = .returned (.int .u64 (cellN cs a : Int)) ∧ ((∃ F'', AS X0 w' F0 D0 F'' D b v most next th (made + 1) cs (t ++ [⟨th, 1, a, 0, 0, .slice none 0 0, [], cellN cs a, false⟩])) ∧ KH w' D p F q d l ⟨obj, nx, head, cnt, kept, kst, first, asked, ast⟩) := fun a ha => by
    refine (A.load a ha h1 h2).mono ?_
    rintro e w' ⟨rfl, F'', A', K⟩
    exact ⟨rfl, ⟨F'', A'⟩, h.kept K⟩
  have hld5 : ∀ a : Nat, a < 18446744073709551616 → Calls Try.prog 39 #[.pointer (some ⟨v, 0, none⟩), .int .u64 (a : Int)] (X.setCell ⟨p, 5, none⟩ (.int .u64 ((cnt + 1 : Nat) : Int))) fun e w' => e = .returned (.int .u64 (cellN cs a : Int)) ∧ ((∃ F'', AS X0 w' F0 D0 F'' D b v most next th (made + 1) cs (t ++ [⟨th, 1, a, 0, 0, .slice none 0 0, [], cellN cs a, false⟩])) ∧ KH w' D p F q d l ⟨obj, nx, head, cnt + 1, kept, kst, first, asked, ast⟩) := fun a ha => by
    have h' : KH (X.setCell ⟨p, 5, none⟩ (.int .u64 ((cnt + 1 : Nat) : Int))) D p F q d l ⟨obj, nx, head, cnt + 1, kept, kst, first, asked, ast⟩ := h.fin (setP (i := 5) (.int .u64 ((cnt + 1 : Nat) : Int))) (set_of h.cut 5 _)
    refine ((A.setP (i := 5) hp (.int .u64 ((cnt + 1 : Nat) : Int))).load a ha h1 h2).mono ?_
    rintro e w' ⟨rfl, F'', A', K⟩
    exact ⟨rfl, ⟨F'', A'⟩, h'.kept K⟩
  have hst : ∀ a y : Nat, a < 18446744073709551616 → y < 18446744073709551616 → Calls Try.prog 13 #[.pointer (some ⟨v, 0, none⟩), .int .u64 (a : Int), .int .u64 (y : Int)] X.drew fun e w' => e = .returned (.tuple #[]) ∧ ((∃ F'', AS X0 w' F0 D0 F'' D b v most next th (made + 1) (stN most cs a y) (t ++ [⟨th, 2, a, y, 0, .slice none 0 0, [], 0, false⟩])) ∧ KH w' D p F q d l ⟨obj, nx, head, cnt, kept, kst, first, asked, ast⟩) := fun a y ha hy => by
    refine (A.drew.store a y ha hy h1 h2).mono ?_
    rintro e w' ⟨rfl, F'', A', K⟩
    exact ⟨rfl, ⟨F'', A'⟩, h.kept K⟩
  rcases (show nx = 0 ∨ nx = 1 ∨ nx = 2 ∨ nx = 3 ∨ nx = 4 ∨ nx = 5 ∨ nx = 6 by omega) with rfl | rfl | rfl | rfl | rfl | rfl | rfl
  · refine (k_s0 p F _ _ obj head cnt kept kst first asked ast X h.cut _ _ (hld obj hbd.obj) (fun x hx => hx.2.cut)).mono ?_
    rintro e w' ⟨rfl, hc, x, ⟨⟨F'', A'⟩, hk⟩, c⟩
    subst ho
    refine ⟨?_, F'', D, A'.pchg hp c, hk.fin c hc⟩
    by_cases e : cellN cs obj = 0 <;> simp [kstep, e]
  · refine (k_s1 p F _ _ obj head cnt kept kst first asked ast X h.cut _ _ (wrap_addP1 kept) _ (hld _ (addP_lt _ _)) (fun x hx => hx.2.cut)).mono ?_
    rintro e w' ⟨rfl, hc, x, ⟨⟨F'', A'⟩, hk⟩, c⟩
    subst ho
    exact ⟨by simp [kstep], F'', D, A'.pchg hp c, hk.fin c hc⟩
  · refine (k_s2 p F _ _ obj head cnt kept kst first asked ast X h.cut _ _ (hld kept hbd.kept) (fun x hx => hx.2.cut)).mono ?_
    rintro e w' ⟨rfl, hc, x, ⟨⟨F'', A'⟩, hk⟩, c⟩
    subst ho
    exact ⟨by simp [kstep], F'', D, A'.pchg hp c, hk.fin c hc⟩
  · refine (k_s3 p F _ _ obj head cnt kept kst first asked ast X _ h.cut _ _ (wrap_addP2 kept) _ (hld _ (addP_lt _ _)) (fun x hx => hx.2.cut) rfl).mono ?_
    rintro e w' ⟨rfl, hc, x, ⟨⟨F'', A'⟩, hk⟩, c⟩
    subst ho
    exact ⟨rfl, F'', D, A'.pchg hp c, hk.fin c hc⟩
  · by_cases hb : ndN F l (cellN cs (addP asked 1)) kst = true
    · have e0 : kstep th F l most cs ⟨obj, 4, head, cnt, kept, kst, first, asked, ast⟩ = (cs, CutS.join ⟨obj, 5, head, cnt, kept, kst, first, asked, cellN cs (addP asked 1)⟩, ⟨th, 1, addP asked 1, 0, 0, .slice none 0 0, [], cellN cs (addP asked 1), false⟩) := by simp [kstep, hb]
      rw [e0] at ho
      subst ho
      refine (k_s4T p F q d l _ obj head cnt kept kst first asked ast X h.cut hlen _ _ (wrap_addP1 asked) _ (hld _ (addP_lt _ _)) (fun x hx => ⟨hx.2.cut, hx.2.row, hx.2.ne⟩) hb _ rfl).mono ?_
      rintro e w' ⟨rfl, hc, x, ⟨⟨F'', A'⟩, hk⟩, c⟩
      exact ⟨rfl, F'', D, A'.pchg hp c, hk.fin c hc⟩
    · have e0 : kstep th F l most cs ⟨obj, 4, head, cnt, kept, kst, first, asked, ast⟩ = (cs, ⟨obj, 5, head, cnt, kept, kst, first, asked, cellN cs (addP asked 1)⟩, ⟨th, 1, addP asked 1, 0, 0, .slice none 0 0, [], cellN cs (addP asked 1), false⟩) := by simp [kstep, hb]
      rw [e0] at ho
      subst ho
      refine (k_s4F p F q d l _ obj head cnt kept kst first asked ast X h.cut hlen _ _ (wrap_addP1 asked) _ (hld _ (addP_lt _ _)) (fun x hx => ⟨hx.2.cut, hx.2.row, hx.2.ne⟩) (by simpa using hb)).mono ?_
      rintro e w' ⟨rfl, hc, x, ⟨⟨F'', A'⟩, hk⟩, c⟩
      exact ⟨rfl, F'', D, A'.pchg hp c, hk.fin c hc⟩
  · refine (k_s5 p F _ _ obj head cnt kept kst first asked ast X _ h.cut (by rw [IntKind.wrap_u64]; omega) _ _ (wrap_addP2 asked) _ (hld5 _ (addP_lt _ _)) (fun x hx => hx.2.cut) rfl).mono ?_
    rintro e w' ⟨rfl, hc, x, ⟨⟨F'', A'⟩, hk⟩, c⟩
    subst ho
    exact ⟨rfl, F'', D, A'.pchg hp c, hk.fin c hc⟩
  · refine (k_s6 p F _ _ obj head cnt kept kst first asked ast X h.cut _ (wrap_addP2 kept) _ (hst _ _ (addP_lt _ _) hbd.asked) (fun x hx => hx.2.cut) _ rfl).mono ?_
    rintro e w' ⟨rfl, hc, x, ⟨⟨F'', A'⟩, hk⟩, c⟩
    subst ho
    exact ⟨rfl, F'', D, A'.pchg hp c, hk.fin c hc⟩
end
theorem goOn_nx (s : CutS) : s.goOn.nx ≤ 7 := by
  simp only [CutS.goOn]
  split <;> omega
theorem join_nx (s : CutS) : s.join.nx ≤ 7 := by
  unfold CutS.join
  split
  · exact goOn_nx s
  · simp
theorem ask_nx (s : CutS) (x : Nat) : (s.ask x).nx ≤ 7 := by
  unfold CutS.ask
  split
  · exact join_nx _
  · simp
theorem goOn_cntG (s : CutS) : s.goOn.cnt = s.cnt := rfl
theorem join_cntG (s : CutS) : s.join.cnt = s.cnt := by unfold CutS.join; split <;> rfl
theorem ask_cntG (s : CutS) (x : Nat) : (s.ask x).cnt = s.cnt := by
  unfold CutS.ask
  split
  · rw [join_cntG]
  · rfl
theorem kstep_all (th : Int) (F : Nat) (l : List Nat) (most : Nat) (cs : List Nat) (s : CutS) (hc : ∀ i, cellN cs i < 18446744073709551616) (h : s.Bd) : (kstep th F l most cs s).2.1.Bd ∧ (kstep th F l most cs s).2.1.nx ≤ 7 ∧ (kstep th F l most cs s).2.1.cnt ≤ s.cnt + 1 := by
  obtain ⟨h1, h2, h3⟩ := h
  unfold kstep
  split
  · exact ⟨⟨h1, hc _, h3⟩, by simp only []; split <;> omega, by simp⟩
  · split
    · exact ⟨⟨h1, h2, h3⟩, by simp, by simp⟩
    · split
      · exact ⟨⟨h1, h2, h3⟩, by simp, by simp⟩
      · split
        · exact ⟨by refine CutS.Bd.ask ?_ (hc _); exact ⟨h1, h2, h3⟩, ask_nx _ _, by rw [ask_cntG]; simp⟩
        · split
          · simp only []
            split
            · exact ⟨by refine CutS.Bd.join ?_; exact ⟨h1, h2, h3⟩, join_nx _, by rw [join_cntG]; simp⟩
            · exact ⟨⟨h1, h2, h3⟩, by simp, by simp⟩
          · split
            · exact ⟨by refine CutS.Bd.ask ?_ (hc _); exact ⟨h1, h2, h3⟩, ask_nx _ _, by rw [ask_cntG]; simp⟩
            · exact ⟨by refine CutS.Bd.goOn ?_; exact ⟨h1, h2, h3⟩, goOn_nx _, by rw [goOn_cntG]; simp⟩
structure CutP where
  F : Nat
  l : List Nat
  s : CutS
def cutO (th : Int) (most next : Nat) (cs : List Nat) (s : CutP) : Out CutP := (fun o : List Nat × CutS × Acc => ⟨decide (o.2.1.nx = 7), next, o.1, [o.2.2], ⟨s.F, s.l, o.2.1⟩⟩) (kstep th s.F s.l most cs s.s)
def cutK : Kind CutP where
  H := fun X D pv s => ∃ p q d, pv = .iface 39 (.pointer (some ⟨p, 0, none⟩)) ∧ KH X D p s.F q d s.l s.s ∧ ∀ k, D k → k < X.heap.size
  ok := fun n s => s.s.Bd ∧ s.l.length < 4611686018427387904 ∧ s.s.nx ≤ 6 ∧ s.s.cnt ≤ n
  okM := fun _ _ _ h hs => ⟨hs.1, hs.2.1, hs.2.2.1, Nat.le_trans hs.2.2.2 h⟩
  stp := cutO
  kept := fun {X Y D pv s} h hk => by
    obtain ⟨p, q, d, e, H, L⟩ := h
    exact ⟨p, q, d, e, H.kept hk, kept_lt L hk⟩
  lt := fun {X D pv s k} h hk => by
    obtain ⟨p, q, d, e, H, L⟩ := h
    exact L k hk
  few := fun th most next cs s => by simp [cutO]
  okS := fun n th most next cs s h hc hm hd => by
    obtain ⟨h1, h2, h3⟩ := kstep_all th s.F s.l most cs s.s hc h.1
    have hd' : ¬ (kstep th s.F s.l most cs s.s).2.1.nx = 7 := of_decide_eq_false hd
    exact ⟨h1, h.2.1, by show (kstep th s.F s.l most cs s.s).2.1.nx ≤ 6; omega, by have := h.2.2.2; show (kstep th s.F s.l most cs s.s).2.1.cnt ≤ n + 1; omega⟩
  step := fun n X F D b v most next th made cs t pv s A h ok hn h1 h2 => by
    obtain ⟨p, q, d, rfl, H, L⟩ := h
    have hcn := ok.2.2.2
    refine (as_so (made' := made + 1) (so_Gcut p) A (fun Y D' => KH Y D' p s.F q d s.l (kstep th s.F s.l most cs s.s).2.1) (fun Y Y' D' h hk => h.kept hk) (fun X1 hX A1 => as_cut A1 (H.kept hX) ok.1 ok.2.1 ok.2.2.1 (by omega) (by omega) (by omega) _ rfl)).mono ?_
    rintro e Y ⟨rfl, F', D', A', H'⟩
    exact ⟨rfl, F', D', made + 1, A', Nat.le_refl _, p, q, d, rfl, H', fun k e => (A'.dis k e).2.2⟩
end Go.Proofs.Ytbjebnkfecjpnaa
