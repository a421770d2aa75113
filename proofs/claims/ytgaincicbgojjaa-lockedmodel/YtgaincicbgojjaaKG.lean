/- Few handles hold; the document's error for a config. -/
import Derived.Test.YtgaincicbgojjaaKQ
import Derived.Test.YtgaincicbgojjaaXb
namespace Go.Proofs.Ytgaincicbgojjaa
open Go.RowKit Go.Maps Go.Shelf
set_option linter.unusedVariables false

theorem held_few {W : World} {b n : Nat} {h : Nat → Option Nat} (H : HeldAt W b n h) {ks : List Nat} (hk : ∀ k, (h k).isSome = true → k ∈ ks) : HeldAt W b ks.length h := by
  obtain ⟨D, own, r⟩ := H
  obtain ⟨L, hD, hpw, _⟩ := own.entries K64
  obtain ⟨es, clock, hb, F, hs, hDe⟩ := own
  have hsz : L.length = es.size := by
    have e : Maps.size D = es.size := by rw [hDe]; simp [Maps.size, length_sorted]
    rw [hD] at e
    exact e
  have hkey : ∀ p ∈ L, ∃ k : Nat, p.1 = .int .u64 (k : Int) := by
    intro p hp
    rw [hDe] at hD
    injection hD with hD
    rw [← hD] at hp
    obtain ⟨v, hv⟩ := fit_keys F p (mem_sorted.1 hp)
    obtain ⟨x, _, e, w⟩ := Maps.keyOf_int_inv Try.underlying23 hv
    obtain ⟨k, rfl, _⟩ := nat_u64 w
    exact ⟨k, e⟩
  let tn : Lit × DataW (Option Nat) → Nat := fun p => match p.1 with | .int _ x => x.toNat | _ => 0
  have htn : ∀ p ∈ L, p.1 = .int .u64 ((tn p : Nat) : Int) := by
    intro p hp
    obtain ⟨k, e⟩ := hkey p hp
    have : tn p = k := by simp only [tn, e]; exact Int.toNat_natCast k
    rw [this]
    exact e
  have nd : (L.map tn).Nodup := by
    rw [List.Nodup, List.pairwise_map]
    refine List.Pairwise.imp_of_mem ?_ hpw
    intro p q hp hq hne e
    apply hne
    rw [htn p hp, htn q hq, e]
  have sub : ∀ k ∈ L.map tn, k ∈ ks := by
    intro k hk'
    obtain ⟨p, hp, rfl⟩ := List.mem_map.1 hk'
    apply hk
    rw [← r.has (tn p), hD, has_eq]
    refine List.any_eq_true.2 ⟨p, hp, ?_⟩
    rw [← htn p hp]
    exact WideAt.sameKey_self (by rw [htn p hp]; trivial)
  have := List.Nodup.length_le_of_subset nd sub
  rw [List.length_map, hsz] at this
  exact ⟨D, ⟨es, clock, hb, F, this, hDe⟩, r⟩
def hdls (sl : List (Bool × Nat)) : List Nat := (List.range sl.length).map (fun i => hdl i ((sl[i]?.getD (false, 0)).2))
theorem hdls_len (sl : List (Bool × Nat)) : (hdls sl).length = sl.length := by simp [hdls]
theorem SlInv.all {sl : List (Bool × Nat)} {hc lf : Nat} {pc : Nat → Option (Nat → Option Nat)} (I : SlInv sl hc lf pc) (k : Nat) (hk : (pc k).isSome = true) : k ∈ hdls sl := by
  obtain ⟨i, g, hi, rfl⟩ := (I.pcs k).1 hk
  refine List.mem_map.2 ⟨i, by simpa using (List.getElem?_eq_some_iff.1 hi).1, ?_⟩
  rw [hi]
  rfl
set_option maxRecDepth 100000 in
theorem m_handlesT {W : World} {m nw hd mu : Nat} {f h : Nat → Option Nat} {g : Nat → Nat → Option Nat} {n n' : Nat} (H : MoAt W m nw hd mu f h g n) (Hh : HeldAt W hd n' h) (hn : n' ≤ 60000) :
    Calls Try.prog 15 #[.pointer (some ⟨m, 0, none⟩)] W fun e W' => (∃ p c, ∃ ss : List Nat, e = .returned (.slice p ss.length c) ∧ AllU h ss) ∧ Chg (fun _ => False) W W' := by
  have c2 : W.cell? ⟨m, 2, none⟩ = some (.map (some hd)) := cell_of H.md 2
  obtain ⟨D, hown, r⟩ := Hh
  have hsz := hown.size_le
  have hq : Below W.heap.size W (W.alloc (.cells #[.map (some hd)] 81)) := (Below.refl _ W).alloc (Nat.le_refl _) _
  have HS := keepH (sorted_any W.heap.size hd n' D h r (W.alloc (.cells #[.map (some hd)] 81)) (by simp) (Boxed.new W 81 (.map (some hd))).cell (own_below hown hq) (by omega))
  clear H hown r hq
  go_enter Try.func15, Try.ntmps15
  go_wp2_with fail
  refine (callsIn_wide.1 (keys_in 4 hd W)).mono ?_
  rintro e w1 ⟨rfl, rfl⟩
  go_wp2_with fail
  refine HS.out.mono ?_
  rintro e w2 ⟨⟨v, ss, rfl, hA, hl, hu⟩, hb⟩
  obtain ⟨p, c, rfl⟩ : ∃ p c, v = .slice p ss.length c := by
    rcases hu with ⟨rfl, rfl⟩ | ⟨g, c, e, hg, hr⟩
    · exact ⟨none, 0, rfl⟩
    · exact ⟨_, c, e⟩
  have HZ := keepH hA
  have HB := keepH hb
  clear hA hl hu hb
  go_wp2_with fail
  go_ret
  exact ⟨⟨p, c, ss, by simp, HZ.out⟩, ((Chg.refl (fun _ => False) W).alloc _).trans HB.out (fun _ _ x => x) (fun _ _ x => x)⟩
end Go.Proofs.Ytgaincicbgojjaa
