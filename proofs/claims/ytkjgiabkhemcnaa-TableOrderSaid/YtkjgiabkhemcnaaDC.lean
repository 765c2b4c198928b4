/- Package disk: Append, between. -/
import Derived.Test.YtkjgiabkhemcnaaDB
namespace Go.Proofs.Ytkjgiabkhemcnaa
open Go.RowKit

theorem HeldAt.slice {w : World} {p g : Nat} {v : Value} {l : List UInt8} (h : HeldAt w p g v l) : ∃ A cap, v = .slice A l.length cap := by
  rcases h with ⟨rfl, rfl, _⟩ | ⟨_, o, cap, rfl, _⟩
  · exact ⟨_, _, rfl⟩
  · exact ⟨_, _, rfl⟩
theorem HeldAt.zero {w : World} {p g cap : Nat} {A : Option Addr} {l : List UInt8} (h : HeldAt w p g (.slice A l.length cap) l) : HeldAt w p g (.slice A 0 0) [] := by
  rcases h with ⟨e, rfl, hg⟩ | ⟨hne, o, cap', e, ho⟩
  · injection e with e1 e2 e3
    subst e1
    exact .inl ⟨rfl, rfl, hg⟩
  · injection e with e1 e2 e3
    subst e1
    exact .inr ⟨hne, o, 0, rfl, ho.none_⟩
theorem HeldAt.part {w : World} {p g cap : Nat} {A : Option Addr} {l : List UInt8} (h : HeldAt w p g (.slice A l.length cap) l) {k k2 : Nat} (hk : k ≤ k2) (hk2 : k2 ≤ l.length) : HeldAt w p g (.slice (A.map fun x => x.add k) (k2 - k) (k2 - k)) ((l.drop k).take (k2 - k)) := by
  rcases h with ⟨e, rfl, hg⟩ | ⟨hne, o, cap', e, ho⟩
  · injection e with e1 e2 e3
    subst e1
    have : k2 - k = 0 := by simp at hk2; omega
    rw [this]
    exact .inl ⟨rfl, by simp, hg⟩
  · injection e with e1 e2 e3
    subst e1 e3
    have h1 := (ho.drop (k := k) (by omega)).cut (k := k2 - k) (by rw [List.length_drop]; omega)
    have hl : ((l.drop k).take (k2 - k)).length = k2 - k := by rw [List.length_take, List.length_drop]; omega
    refine .inr ⟨hne, o + k, k2 - k, ?_, h1⟩
    rw [hl, Option.map_some, Addr.add_lit]
/-- what between answers -/
def BtT (w : World) (p g b i j : Nat) (l : List UInt8) (e : Ending) (w' : World) : Prop := ∃ A n m, e = .returned (.slice A m m) ∧ m = j - i ∧ HeldAt w p g (.slice A m m) ((l.drop (i - b)).take (j - i)) ∧ w' = w.drewN n
/-- what Clone answers -/
def CloneTo (w : World) (l : List UInt8) (e : Ending) (w' : World) : Prop := ∃ v, e = .returned v ∧ OwnB w' w.heap.size v l ∧ Below w.heap.size w w'
set_option maxRecDepth 100000 in
theorem clone_any (l : List UInt8) (a : Addr) (n cap : Nat) (hn : l.length = n) (w : World) (hl : l.length ≤ 100000) (hr : RdB w w.heap.size (some a) l) : Calls Try.prog 28 #[.slice (some a) n cap] w (CloneTo w l) := by
  subst hn
  obtain ⟨i0, hi, hz0, hz1, hz2⟩ := info_parts info8
  have hnil : ∀ (w : World) (a : Option Addr) (n c n' c' : Nat), (binOp .eql 23 (.slice a n c) (.slice none n' c')).run Try.prog w = .ok (.bool a.isNone) w := fun w a n c n' c' => Lib.run_eql_slice_nil w _ _ a n c n' c' Try.underlying23
  have HR := Lib.hid hr
  have HL : Hid (([] : List UInt8).length + l.length ≤ 1000000) := Lib.hid (by simp; omega)
  clear hr hl
  go_enter Try.func28, Try.ntmps28
  go_wp2_with (at_builtin
               have h1 := own_empty (Nat.le_refl w.heap.size) 0
               have h2 := HR.out.below (alloc_below w (.cells #[] 5)) (Nat.le_refl _)
               refine wpList_appB (xs := []) (ys := l) (B := w.heap.size) rfl _ _ 23 rfl Try.underlying23 hi hz0 hz1 hz2 rfl h1 rfl rfl h2 HL.out (by simp) ?_
               intro v5 w5 ho5 hg5
               have HY : Hid (CloneTo w l (.returned v5) w5) := Lib.hid ⟨v5, rfl, ho5, grew_below (alloc_below w (.cells #[] 5)) h1.ge hg5⟩
               clear ho5 hg5 h1 h2)
  go_ret
  exact HY.out
theorem clone_nil (n cap : Nat) (w : World) : Calls Try.prog 28 #[.slice none n cap] w (CloneTo w []) := by
  have hnil : ∀ (w : World) (a : Option Addr) (n c n' c' : Nat), (binOp .eql 23 (.slice a n c) (.slice none n' c')).run Try.prog w = .ok (.bool a.isNone) w := fun w a n c n' c' => Lib.run_eql_slice_nil w _ _ a n c n' c' Try.underlying23
  go_enter Try.func28, Try.ntmps28
  go_wp2_with fail
  go_ret
  exact ⟨_, rfl, OwnB.nil _ _, Below.refl _ _⟩
/-- Clone of a slice that a disk holds -/
theorem clone_held {w : World} {p g n cap : Nat} {A : Option Addr} {l : List UInt8} (h : HeldAt w p g (.slice A n cap) l) (hl : l.length ≤ 100000) : Calls Try.prog 28 #[.slice A n cap] w (CloneTo w l) := by
  obtain ⟨hr, hn⟩ := h.rd
  rcases A with _ | a
  · have : l = [] := by
      rcases l with _ | ⟨y, t⟩
      · rfl
      · obtain ⟨_, e, _⟩ := hr (by simp); cases e
    subst this
    exact clone_nil n cap w
  · exact clone_any l a n cap hn.symm w hl hr
end Go.Proofs.Ytkjgiabkhemcnaa
