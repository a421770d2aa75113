/- Stamps fall; a run goes on behind other things. -/
import Derived.Test.YtadbgmcfjemkeaaHz
import Derived.WalkKit
import Derived.BigQuiet
namespace Go.Proofs.Ytadbgmcfjemkeaa
open Go.RowKit Go.Shelf
set_option linter.unusedVariables false

theorem Chg.falls {a b c : World} (h : Chg (fun _ => False) a b) (k : Chg (fun _ => False) b c) : Chg (fun _ => False) a c := h.trans k (fun _ _ x => x) (fun _ _ x => x)
/-- What was made behind a run's picks stays over the next ones. -/
theorem GRun.rebase {P : Type} {κ : Kind P} {most m b T : Nat} {cl : Nat → Nat} {vb : Nat → Nat} {pv : Nat → Nat → Value} {c0 : Cfg P} {W Z X Y : World} {S : Nat → Prop} {r : Nat} {picks : List Int} {k : Nat} (h : GRun κ most m b T cl vb pv c0 W Z X S r picks k) (c : Chg (fun _ => False) X Y) :
    GRun κ most m b T cl vb pv c0 W Y Y (fun j => X.heap.size ≤ j ∧ j < Y.heap.size) r picks k := by
  obtain ⟨G, K, vw, tv, ev, av, ths, evs, ats, h⟩ := h
  have lk := h.ma.ltK
  exact ⟨G, K, vw, tv, ev, av, ths, evs, ats, h.run.kept c.size (fun j hj => c.block j (h.run.lt j hj) (fun x => x)), h.ma.keep c.size (fun j hj => c.block j (lk j hj) (fun x => x)), h.apart, h.len, h.thr, h.vws, h.evl, h.inW, h.chg.falls c, fun j hj => ⟨hj.2, rfl, fun e => by have := h.run.lt j e; omega, fun e => by have := lk j e; omega⟩⟩
def stN1 (cs : List Nat) (o i : Nat) : Nat := cellN cs (hN cs o i + 1)
def FallsR (cs : List Nat) (o K : Nat) : Prop := ∀ i, i + 1 < K → stN1 cs o (i + 1) ≠ 0 ∧ (stN1 cs o i ≠ 0 → stN1 cs o (i + 1) ≤ stN1 cs o i)
theorem GI.fallsR {next : Nat} {cs : List Nat} {ch : Nat → List Nat} (h : GI next cs ch) {o K : Nat} (ho : isO o) (S : Stops cs 16384 o K) : FallsR cs o K := by
  obtain ⟨e1, e2⟩ := h.stops ho S
  intro i hi
  have ha := List.getElem?_eq_getElem (show i < (ch o).length by omega)
  have hb := List.getElem?_eq_getElem (show i + 1 < (ch o).length by omega)
  unfold stN1
  rw [e2 i _ ha, e2 (i + 1) _ hb]
  have r := (List.pairwise_iff_getElem.1 (h.pw o ho)) i (i + 1) (by omega) (by omega) (by omega)
  exact r.2
set_option maxRecDepth 100000 in
set_option maxHeartbeats 4000000 in
theorem v_falls (cs : List Nat) (o K : Nat) (v : Value) (W : World) (hr : W.ownsRow 0 43 2 v K (verRow cs o K)) (hK : K ≤ 16384) (hF : FallsR cs o K) :
    Calls Try.prog 12 #[v] W fun e W' => e = .returned (.bool true) ∧ Chg (fun _ => False) W W' := by
  obtain ⟨p, c, hv⟩ := slice_of hr
  subst hv
  have HR := keepH hr
  have HF := keepH hF
  clear hr hF
  go_enter Try.func12, Try.ntmps12
  go_wp2_with fail
  go_loopw [3] (fun s wr => ∃ n : Nat, 1 ≤ n ∧ (n ≤ K ∨ n = 1) ∧ s = .int .i64 (n : Int) ∧ Hid (Chg (fun _ => False) W wr)) (fun s _ => K - (intOf s).toNat)
  case atStart => exact ⟨1, by omega, .inr rfl, rfl, Chg.refl _ _⟩
  case round =>
    obtain ⟨n, h1, h2, rfl, HC⟩ := hrel
    by_cases hlt : n < K
    · have t1 : (n : Int) < (K : Int) := by omega
      obtain ⟨j, hj⟩ : ∃ j, n = j + 1 := ⟨n - 1, by omega⟩
      obtain ⟨g, d, e⟩ := slice_pos HR.out (by omega)
      simp only [Value.slice.injEq] at e
      obtain ⟨rfl, _, rfl⟩ := e
      have RV := row_kept (W' := wr) HR.out (fun g e => HC.out.block g (row_lt HR.out g e) (fun x => x))
      obtain ⟨f1, f2⟩ := HF.out j (by omega)
      obtain ⟨ya, hya⟩ : ∃ y, y = stN1 cs o j := ⟨_, rfl⟩
      obtain ⟨yb, hyb⟩ : ∃ y, y = stN1 cs o (j + 1) := ⟨_, rfl⟩
      have ga := (verRow_get cs o K j (by omega)).2
      have gb := (verRow_get cs o K (j + 1) (by omega)).2
      rw [show cellN cs (hN cs o j + 1) = ya from hya.symm] at ga
      rw [show cellN cs (hN cs o (j + 1) + 1) = yb from hyb.symm] at gb
      rw [← hya, ← hyb] at f2
      rw [← hyb] at f1
      have ca : wr.cell? ⟨g, j * 2 + 1, none⟩ = some (.int .u64 (ya : Int)) := by rw [Nat.mul_comm j 2]; exact ver_cell RV _ _ ga
      have cb : wr.cell? ⟨g, n * 2 + 1, none⟩ = some (.int .u64 (yb : Int)) := by rw [Nat.mul_comm n 2, hj]; exact ver_cell RV _ _ gb
      have wk : IntKind.i64.wrap ((n : Int) - 1) = (j : Int) := by rw [IntKind.wrap_i64]; omega
      have wk2 : (n : Int) - 1 = (j : Int) := by omega
      have tj : (j : Int) < (K : Int) := by omega
      have eb : ((yb : Int) == 0) = false := by simpa using f1
      have db : decide ((yb : Int) = 0) = false := by simpa using f1
      have HJ := keepH hj
      have C2 : Hid (∀ q, Chg (fun _ => False) W (wr.drewN q)) := fun q => HC.out.falls (Goes.drewN wr (fun _ => False) q).chg
      clear RV ga gb hya hyb hj
      by_cases za : ya = 0
      · have ea : ((ya : Int) != 0) = false := by simp [za]
        have da : decide ((ya : Int) ≠ 0) = false := by simp [za]
        go_wp2_with fail
        go_quiet (fail)
        go_wp2_with fail
        refine ⟨⟨n + 1, by omega, .inl (by omega), by simp, C2.out _⟩, by simp [intOf]; omega⟩
      · have ea : ((ya : Int) != 0) = true := by simpa using za
        have le := f2 za
        have lt : ¬ (ya : Int) < (yb : Int) := by omega
        have ld : decide ((ya : Int) < (yb : Int)) = false := decide_eq_false lt
        go_wp2_with fail
        go_quiet (fail)
        go_wp2_with fail
        refine ⟨⟨n + 1, by omega, .inl (by omega), by simp, C2.out _⟩, by simp [intOf]; omega⟩
    · have t1 : ¬ (n : Int) < (K : Int) := by omega
      go_wp2_with fail
      go_ret
      exact ⟨by simp, HC.out⟩
end Go.Proofs.Ytadbgmcfjemkeaa
