/- A view counts an access, and writes it down. -/
import Derived.Test.YtjodechhnobkhaaGreatDoorView
namespace Go.Proofs.YtjodechhnobkhaaGreatDoor
open Go.RowKit Go.Shelf

theorem Reads.chg {W W' : World} {F : Nat → Prop} {p : Option Addr} {vals : List Nat} (h : Reads W p vals) (hc : Chg F W W') (hne : ∀ ad, p = some ad → vals ≠ [] → ¬ F ad.block) : Reads W' p vals := by
  rcases h with h | ⟨ad, rfl, h⟩
  · exact .inl h
  · exact .inr ⟨ad, rfl, fun j u hj => cell_chg hc (h j u hj) (by rw [add_block]; exact hne ad rfl (fun e => by rw [e] at hj; simp at hj))⟩

/-- A view's own block may change too. -/
structure GoesV (W W' : World) (F F' : Nat → Prop) (v : Nat) : Prop where
  chg : Chg (fun k => F k ∨ k = v) W W'
  new : ∀ k, F' k → F k ∨ W.heap.size ≤ k

set_option maxRecDepth 100000 in
theorem v_count (v b most next made : Nat) (th th0 : Int) (kind addr x y got : Nat) (ok : Bool) (p : Option Addr) (c : Nat) (vals : List Nat) (F : Nat → Prop) (cs : List Nat) (l : List Acc) (W : World) (hw : IsView W v b th made) (h : Bank W F b most next cs l) (hnv : ¬ F v) (hmd : made < 1099511627776)
    (hr : Reads W p vals) (hpv : ∀ ad, p = some ad → vals ≠ [] → ad.block ≠ v) (hv : vals.length ≤ 17592186043904) (hl : l.length < 1099511627776) :
    Calls Tryz.prog 73 #[.pointer (some ⟨v, 0, none⟩), accV th0 kind addr x y (.slice p vals.length c) got ok] W fun e W' => e = .returned (.tuple #[]) ∧ ∃ F' vs, Bank W' F' b most next cs (l ++ [⟨th, kind, addr, x, y, vs, vals, got, ok⟩]) ∧ IsView W' v b th (made + 1) ∧ GoesV W W' F F' v := by
  have c0 : W.cell? ⟨v, 0, none⟩ = some (.iface 111 (.pointer (some ⟨b, 0, none⟩))) := cell_of hw 0
  have c1 : W.cell? ⟨v, 1, none⟩ = some (.int .i64 th) := cell_of hw 1
  have c2 : W.cell? ⟨v, 2, none⟩ = some (.int .i64 (made : Int)) := cell_of hw 2
  have f2 := free_of hw 2
  have q := mt_note ⟨b, 0, none⟩
  obtain ⟨md, hmd'⟩ : ∃ md, md = made + 1 := ⟨_, rfl⟩
  have wn : IntKind.i64.wrap ((made : Int) + 1) = (md : Int) := by rw [IntKind.wrap_i64]; omega
  have HMD := keepH hmd'
  clear hmd'
  have HW := keepH hw
  have H := keepH h
  have HR := keepH hr
  have hlt := lt_of hw
  have ne1 : ¬ v = W.heap.size := by omega
  have ne2 : ¬ W.heap.size = v := by omega
  have hv1 : Hid ((W.setCell ⟨v, 2, none⟩ (.int .i64 (md : Int))).heap[v]? = some (.cells #[.iface 111 (.pointer (some ⟨b, 0, none⟩)), .int .i64 th, .int .i64 (md : Int)] 122 (0, 0))) := set_of hw 2 _
  have ka : ∀ o, ((W.setCell ⟨v, 2, none⟩ (.int .i64 (md : Int))).alloc o).cell? ⟨v, 0, none⟩ = some (.iface 111 (.pointer (some ⟨b, 0, none⟩))) := fun o => cell_of (alloc_of hv1.out o) 0
  have HX : Hid (∀ o, Chg (fun k => F k ∨ k = v) W ((W.setCell ⟨v, 2, none⟩ (.int .i64 (md : Int))).alloc o).drew) := fun o => (((Chg.refl _ W).setCell (p := ⟨v, 2, none⟩) (fun _ => .inr rfl) _).alloc o).drew
  have HY : Hid (∀ o, Chg (fun k => k = v) W ((W.setCell ⟨v, 2, none⟩ (.int .i64 (md : Int))).alloc o).drew) := fun o => (((Chg.refl (fun k => k = v) W).setCell (p := ⟨v, 2, none⟩) (fun _ => rfl) _).alloc o).drew
  unfold accV
  clear h hw hr
  go_enter Tryz.func73, Tryz.ntmps73
  go_wp2_with fail
  go_region_with (go_at_call 144; refine (p_note b most next th kind addr x y got ok p c vals F cs l _ (H.out.chg (HY.out _) (fun k hk e => hnv (by rw [← e]; exact hk))) (HR.out.chg (HY.out _) hpv) hv hl).mono ?_; rintro e w2 ⟨rfl, F1, vs, B1, G1⟩; have HB1 := keepH B1; clear B1)
  all_goals (go_wp2_with fail)
  all_goals go_end0
  all_goals
    refine ⟨rfl, F1, vs, HB1.out, ?_, ?_, ?_⟩
    · have e := HMD.out
      subst e
      exact (G1.chg.block v (by simp; omega) hnv).trans (alloc_of hv1.out _)
    · exact (HX.out _).trans G1.chg (fun _ _ h => h) (fun _ _ h => .inl h)
    · intro k hk
      rcases G1.new k hk with e | e
      · exact .inl e
      · exact .inr (Nat.le_trans (HX.out _).size e)
end Go.Proofs.YtjodechhnobkhaaGreatDoor
