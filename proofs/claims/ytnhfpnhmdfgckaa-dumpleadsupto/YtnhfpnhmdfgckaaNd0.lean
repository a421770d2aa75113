/- A model in memory: its map, its pictures. -/
import Derived.Test.YtnhfpnhmdfgckaaNc
namespace Go.Proofs.Ytnhfpnhmdfgckaa
open Go.RowKit Go.Maps
set_option linter.unusedVariables false

structure MoAt (W : World) (m nw hd mu : Nat) (f h : Nat → Option Nat) (g : Nat → Nat → Option Nat) (n : Nat) : Prop where
  md : W.heap[m]? = some (.cells #[.int .i64 (mu : Int), .map (some nw), .map (some hd)] 108 (0, 0))
  now : MapAt W nw n f
  held : HeldAt W hd n h
  pic : ∀ k b, h k = some b → MapAt W b n (g b)
  mn : m ≠ nw
  mh : m ≠ hd
  nh : nw ≠ hd
  ap : ∀ k b, h k = some b → b ≠ nw ∧ b ≠ hd ∧ b ≠ m
theorem MoAt.chg {F : Nat → Prop} {W W' : World} {m nw hd mu : Nat} {f h : Nat → Option Nat} {g : Nat → Nat → Option Nat} {n : Nat} (H : MoAt W m nw hd mu f h g n) (c : Chg F W W') (h1 : ¬ F m) (h2 : ¬ F nw) (h3 : ¬ F hd) (h4 : ∀ k b, h k = some b → ¬ F b) : MoAt W' m nw hd mu f h g n :=
  ⟨(c.block m (lt_of H.md) h1).trans H.md, MapR.chg H.now c h2, MapR.chg H.held c h3, fun k b hb => MapR.chg (H.pic k b hb) c (h4 k b hb), H.mn, H.mh, H.nh, H.ap⟩
theorem MoAt.quiet {W W' : World} {m nw hd mu : Nat} {f h : Nat → Option Nat} {g : Nat → Nat → Option Nat} {n : Nat} (H : MoAt W m nw hd mu f h g n) (c : Chg (fun _ => False) W W') : MoAt W' m nw hd mu f h g n :=
  H.chg c (fun x => x) (fun x => x) (fun x => x) (fun _ _ _ x => x)
theorem MoAt.blk {W : World} {m nw hd mu : Nat} {f h : Nat → Option Nat} {g : Nat → Nat → Option Nat} {n : Nat} (H : MoAt W m nw hd mu f h g n) : m < W.heap.size ∧ nw < W.heap.size ∧ hd < W.heap.size ∧ ∀ k b, h k = some b → b < W.heap.size :=
  ⟨lt_of H.md, MapR.lt H.now, MapR.lt H.held, fun k b hb => MapR.lt (H.pic k b hb)⟩
theorem MoAt.mono {W : World} {m nw hd mu : Nat} {f h : Nat → Option Nat} {g : Nat → Nat → Option Nat} {n n' : Nat} (H : MoAt W m nw hd mu f h g n) (hn : n ≤ n') : MoAt W m nw hd mu f h g n' :=
  ⟨H.md, MapR.mono H.now hn, MapR.mono H.held hn, fun k b hb => MapR.mono (H.pic k b hb) hn, H.mn, H.mh, H.nh, H.ap⟩
theorem MoAt.now64 {W : World} {m nw hd mu : Nat} {f h : Nat → Option Nat} {g : Nat → Nat → Option Nat} {n : Nat} (H : MoAt W m nw hd mu f h g n) {k v : Nat} (hf : f k = some v) : k < 18446744073709551616 ∧ v < 18446744073709551616 := by
  obtain ⟨D, _, r⟩ := H.now
  exact r.lt k v hf
set_option maxRecDepth 100000 in
theorem holds_g {W : World} {m nw hd mu : Nat} {f h : Nat → Option Nat} {g : Nat → Nat → Option Nat} {n : Nat} (H : MoAt W m nw hd mu f h g n) {k : Nat} (hk : k < 18446744073709551616) :
    Calls Try.prog 68 #[.pointer (some ⟨m, 0, none⟩), .int .u64 (k : Int)] W fun e W' => e = .returned (.bool (h k).isSome) ∧ W' = W := by
  have c2 : W.cell? ⟨m, 2, none⟩ = some (.map (some hd)) := cell_of H.md 2
  have hlk := HeldAt.look H.held hk
  clear H
  go_enter Try.func68, Try.ntmps68
  go_wp2_with fail
  go_ret
  exact ⟨by simp, rfl⟩
set_option maxRecDepth 100000 in
theorem new_g (mu : Nat) (h1 : 1 ≤ mu) (h2 : mu ≤ 3) (W : World) : Calls Try.prog 32 #[.int .i64 (mu : Int)] W fun e W' => e = .returned (.tuple #[.pointer (some ⟨W.heap.size + 2, 0, none⟩), .int .i64 0]) ∧ MoAt W' (W.heap.size + 2) W.heap.size (W.heap.size + 1) mu (fun _ => none) (fun _ => none) (fun _ _ => none) 0 ∧ Chg (fun _ => False) W W' := by
  have hmm := @run_makeMap Try.prog
  have q1 : ¬ (mu : Int) < 1 := by omega
  have q2 : ¬ (mu : Int) > 1024 := by omega
  have q3 : ¬ (1024 : Int) < (mu : Int) := by omega
  go_enter Try.func32, Try.ntmps32
  go_wp2_with fail
  go_ret2
  refine ⟨by simp, ⟨?_, ?_, ?_, fun k b hb => by simp at hb, by omega, by omega, by omega, fun k b hb => by simp at hb⟩, (((Chg.refl _ _).alloc _).alloc _).alloc _⟩
  · have e := heap_alloc_new ((W.alloc (.map #[] 0)).alloc (.map #[] 0)) (.cells #[.int .i64 (mu : Int), .map (some W.heap.size), .map (some (W.heap.size + 1))] 108)
    rw [World.size_alloc, World.size_alloc] at e
    simpa using e
  · exact MapR.chg (F := fun _ => False) (MapR.made _ _ _ W) (((Chg.refl _ _).alloc _).alloc _) (fun x => x)
  · have e := MapR.made heldM elH (fun _ => True) (W.alloc (.map #[] 0))
    rw [World.size_alloc] at e
    exact MapR.chg (F := fun _ => False) e ((Chg.refl _ _).alloc _) (fun x => x)
end Go.Proofs.Ytnhfpnhmdfgckaa
