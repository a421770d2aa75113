/- The moments: which they are, and whether one is an edge. -/
import Derived.Test.YtjodechhnobkhaaGreatDoorRwb
namespace Go.Proofs.YtjodechhnobkhaaGreatDoor
open Go.RowKit
set_option linter.unusedVariables false

set_option maxRecDepth 100000 in
set_option maxHeartbeats 2000000 in
theorem returned_any (d : Dx) (hd : d.Ok) (W : World) :
    Calls Tryz.prog 40 #[.agg (didC d)] W fun e W' => e = .returned (.bool (decide (0 ≤ d.til))) ∧ Below W.heap.size W W' := by
  obtain ⟨th, idx, fr, til, rest⟩ := d
  obtain ⟨r0, r1, r2, r3, r4, r5, r6, r7, r8, r9, r10, r11, r12, r13, r14, r15, r16, r17, rfl⟩ := list18 hd.rest
  simp only [didC]
  clear hd
  go_enter Tryz.func40, Tryz.ntmps40
  go_wp2_with fail
  go_ret
  exact ⟨by simp, below_alloc _ _⟩

set_option maxRecDepth 100000 in
set_option maxHeartbeats 2000000 in
theorem isEdge_any (b : Nat) (ks : List (Int × Int)) (k : Int × Int) (hk : momOk k) (W : World) (h : KM W b ks) :
    Calls Tryz.prog 24 #[.map (some b), momV k] W fun e W' => e = .returned (.bool (decide (k ∈ ks))) ∧ Below W.heap.size W W' := by
  obtain ⟨w1, hw⟩ : ∃ w1, w1 = W.alloc (.cells #[.int .i64 k.1, .int .i64 k.2] 61) := ⟨_, rfl⟩
  have B1 : Below W.heap.size W w1 := by rw [hw]; exact below_alloc _ _
  have hl := km_look (h.on B1) k hk
  obtain ⟨r, hr⟩ : ∃ r, r = decide (k ∈ ks) := ⟨_, rfl⟩
  rw [← hr] at hl ⊢
  rw [hw] at hl
  clear h hr B1 hw
  unfold momV at hl ⊢
  go_enter Tryz.func24, Tryz.ntmps24
  go_wp2_with fail
  go_ret
  exact ⟨by simp, (below_alloc _ _).trans ((below_alloc _ _).mono (by simp))⟩

def momAt (tr : List Ax) (st : List Int) (i : Nat) : Int × Int := ((tr[i]?.map Ax.th).getD 0, st[i]?.getD (-1))
def ResV (pd : Option Addr) (nd cd : Nat) (pt : Option Addr) (nt ct : Nat) (ps : Option Addr) (ns cs : Nat) : Value := .agg #[.slice pd nd cd, .slice pt nt ct, .slice ps ns cs]
set_option maxRecDepth 100000 in
set_option maxHeartbeats 2000000 in
theorem momentOf_any (pd : Option Addr) (nd cd : Nat) (pt : Option Addr) (ct : Nat) (tr : List Ax) (ps : Option Addr) (cs : Nat) (st : List Int) (i : Nat) (W : World) (ht : ARd W pt tr) (hs : IRd W ps st) (hi : i < tr.length) (hl : tr.length ≤ 1048576) (hl' : st.length ≤ 1048576) :
    Calls Tryz.prog 23 #[ResV pd nd cd pt tr.length ct ps st.length cs, .int .i64 (i : Int)] W fun e W' => e = .returned (momV (momAt tr st i)) ∧ Below W.heap.size W W' := by
  obtain ⟨x, hx⟩ : ∃ x, tr[i]? = some x := ⟨tr[i], List.getElem?_eq_getElem hi⟩
  obtain ⟨bk, off, vp, vc, rfl, hbk, a0, -⟩ := ht.get i x hx
  have t0 : (0 : Int) ≤ (i : Int) := by omega
  obtain ⟨n, hn⟩ : ∃ n, n = tr.length := ⟨_, rfl⟩
  have t1 : (i : Int) < (n : Int) := by omega
  rw [← hn] at hl ⊢
  have e1 : (momAt tr st i).1 = x.th := by simp [momAt, hx]
  obtain ⟨k, hk⟩ : ∃ k, k = momAt tr st i := ⟨_, rfl⟩
  rw [← hk] at e1 ⊢
  obtain ⟨th, hth⟩ : ∃ th, th = x.th := ⟨_, rfl⟩
  rw [← hth] at a0 e1
  have ek : k = (th, k.2) := Prod.ext e1 rfl
  obtain ⟨m, hm⟩ : ∃ m, m = st.length := ⟨_, rfl⟩
  rw [← hm] at hl' ⊢
  unfold ResV momV
  by_cases hlt : i < m
  · have t2 : (i : Int) < (m : Int) := by omega
    obtain ⟨z, hz⟩ : ∃ z, st[i]? = some z := ⟨st[i]'(by omega), List.getElem?_eq_getElem (by omega)⟩
    obtain ⟨bs, os, rfl, hbs, b0⟩ := hs.get i z hz
    have e2 : k.2 = z := by rw [hk]; simp [momAt, hz]
    have b3 : ∀ o1 o2 o3, (((W.alloc o1).alloc o2).alloc o3).cell? ⟨bs, os + i, none⟩ = some (.int .i64 z) := fun o1 o2 o3 => cell_below b0 ((below_alloc _ _).trans (((below_alloc _ _).mono (by simp)).trans ((below_alloc _ _).mono (by simp; omega))))
    rw [e1, e2]
    clear hm hk hx hz hs ht hth hn e1 e2 ek
    go_enter Tryz.func23, Tryz.ntmps23
    go_wp2_with fail
    exact bodyPost_ret (v := .agg #[.int .i64 th, .int .i64 z]) (by simp [results, Tryz.results23, go_sem]) rfl ⟨rfl, (below_alloc _ _).trans (((below_alloc _ _).mono (by simp)).trans ((below_alloc _ _).mono (by simp; omega)))⟩
  · have t2 : ¬ (i : Int) < (m : Int) := by omega
    have hz : st[i]? = none := List.getElem?_eq_none (by omega)
    have e2 : k.2 = -1 := by rw [hk]; simp [momAt, hz]
    rw [e1, e2]
    clear hm hk hx hz hs ht hth hn e1 e2 ek
    go_enter Tryz.func23, Tryz.ntmps23
    go_wp2_with fail
    exact bodyPost_ret (v := .agg #[.int .i64 th, .int .i64 (-1)]) (by simp [results, Tryz.results23, go_sem]) rfl ⟨rfl, (below_alloc _ _).trans (((below_alloc _ _).mono (by simp)).trans ((below_alloc _ _).mono (by simp; omega)))⟩
end Go.Proofs.YtjodechhnobkhaaGreatDoor
