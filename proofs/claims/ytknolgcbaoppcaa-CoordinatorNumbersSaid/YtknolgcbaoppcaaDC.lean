/- Package disk: Append, between. -/
import Derived.Test.YtknolgcbaoppcaaDB
namespace Go.Proofs.Ytknolgcbaoppcaa
open Go.RowKit

theorem HeldAt.slice {w : World} {p g : Nat} {v : Value} {l : List UInt8} (h : HeldAt w p g v l) : ∃ A cap, v = .slice A l.length cap := by
  rcases h with ⟨rfl, rfl, _⟩ | ⟨_, o, cap, rfl, _⟩
  · exact ⟨_, _, rfl⟩
  · exact ⟨_, _, rfl⟩
theorem Dk.dlt {w : World} {B p g b s : Nat} {l : List UInt8} (h : Dk w B p g b s l) : g < w.heap.size := by
  have := h.lt
  obtain ⟨A, cap, _, h2⟩ := h.box
  rcases h2 with ⟨_, _, rfl⟩ | ⟨_, _, _, _, ho⟩
  · exact this
  · exact ho.lt
/-- what Append answers where there is room -/
def DkA (w : World) (B p g b s : Nat) (l ys : List UInt8) (e : Ending) (w' : World) : Prop :=
  e = .returned (.tuple #[.int .i64 ((b + l.length : Nat) : Int), .int .i64 0]) ∧ ∃ g', Dk w' B p g' b s (l ++ ys) ∧ Only (fun k => k = p ∨ k = g) w w' ∧ (g' = g ∨ w.heap.size ≤ g')
theorem dk_app {w w1 w2 : World} {B p g g' b s : Nat} {l ys : List UInt8} {A' : Option Addr} {cap' : Nat} (h : Dk w B p g b s l) (hB : B ≤ w.heap.size) (hb : Below w.heap.size w w1) (h1 : HeldAt w2 p g' (.slice A' (l ++ ys).length cap') (l ++ ys)) (hO : Only (fun k => k = g ∧ k ≠ p) w1 w2) (hg : g' = g ∨ w1.heap.size ≤ g') (hs : b + l.length + ys.length ≤ 100000) :
    DkA w B p g b s l ys (.returned (.tuple #[.int .i64 ((b + l.length : Nat) : Int), .int .i64 0])) (w2.setCell ⟨p, 2, none⟩ (.slice A' (l ++ ys).length cap')) := by
  have hsz := hb.size
  obtain ⟨A, cap, h3, _⟩ := (h.below hb).box
  have hp : p < w1.heap.size := (Array.getElem?_eq_some_iff.1 h3).1
  have h4 := (hO.block p hp (fun e => e.2 rfl)).trans h3
  refine ⟨rfl, g', ⟨⟨A', cap', ?_, h1.only (Only.set w2 p 2 _) (fun hne => hne)⟩, ⟨h.ge.1, ?_⟩, h.bs, by have := h.se; rw [List.length_append]; omega, by rw [List.length_append]; omega⟩, ?_, ?_⟩
  · simp [World.setCell, Array.getElem?_modify, h4]
  · rcases hg with rfl | hg
    · exact h.ge.2
    · omega
  · refine (Only.of_below hb).trans ((hO.more (L := fun k => k = p ∨ k = g) (fun _ _ e => .inr e.1)).trans (Only.set w2 p 2 _) (fun _ _ e => .inl e)) (fun _ _ e => e)
  · rcases hg with rfl | hg
    · exact .inl rfl
    · exact .inr (by omega)
theorem dk_free {w w1 w2 : World} {B p g b s : Nat} {l : List UInt8} (h : Dk w B p g b s l) (hb : Below w.heap.size w w1) (hO : Only (fun k => k = g ∧ k ≠ p) w1 w2) : w2.frozen? ⟨p, 2, none⟩ = false ∧ ∃ v, w2.cell? ⟨p, 2, none⟩ = some v := by
  obtain ⟨A, cap, h3, _⟩ := (h.below hb).box
  have hp : p < w1.heap.size := (Array.getElem?_eq_some_iff.1 h3).1
  have h4 := (hO.block p hp (fun e => e.2 rfl)).trans h3
  exact ⟨free3 h4 2, _, (box3 h4).2.2⟩
set_option maxRecDepth 100000 in
set_option maxHeartbeats 1000000 in
theorem append_any {w : World} {B p g b s : Nat} {l : List UInt8} (h : Dk w B p g b s l) (hB : B ≤ w.heap.size) (ys : List UInt8) (C : Option Addr) (n c : Nat) (hn : ys.length = n) (hr : RdB w w.heap.size C ys) (hs : b + l.length + ys.length ≤ 100000) :
    Calls Try.prog 83 #[.pointer (some ⟨p, 0, none⟩), .slice C n c] w (DkA w B p g b s l ys) := by
  subst hn
  obtain ⟨i0, hi, hz0, hz1, hz2⟩ := info_parts info8
  have HE := Lib.hid (end_any h)
  have HR : Hid (∀ n, RdB (w.drewN n) w.heap.size C ys) := Lib.hid fun n => hr.below (drewN_below w n) (Nat.le_refl _)
  have HA := Lib.hid (fun n w2 g' A' cap' => dk_app (w1 := w.drewN n) (w2 := w2) (g' := g') (A' := A') (cap' := cap') (ys := ys) h hB (drewN_below w n))
  have HF := Lib.hid (fun n w2 => dk_free (w1 := w.drewN n) (w2 := w2) h (drewN_below w n))
  have HL : Hid (b + l.length + ys.length ≤ 100000) := Lib.hid hs
  have HLT := Lib.hid h.lt
  obtain ⟨A, cap, h1, h2⟩ := h.box
  have HO : Hid (∀ n, HeldAt (w.drewN n) p g (.slice A l.length cap) l) := Lib.hid fun n => by
    rcases h2 with h2 | ⟨hne, o, cap', hv, ho⟩
    · exact .inl h2
    · exact .inr ⟨hne, o, cap', hv, ho.keep (Nat.le_refl _) rfl⟩
  obtain ⟨x0, x1, x2⟩ := box3 h1
  have hnot : ¬ (1048576 - (l.length : Int) < (ys.length : Int)) := by omega
  have hli : (l.length : Int) ≤ 100000 := by omega
  clear h1 h2 h hr hs hB
  go_enter Try.func83, Try.ntmps83
  go_wp2_with (first
    | (go_at_call 21; refine HE.out.mono ?_; rintro e w2 ⟨rfl, n, rfl⟩)
    | (at_builtin
       refine wpList_appH rfl _ _ 56 rfl Try.underlying56 hi hz0 hz1 hz2 rfl (HO.out _) HLT.out rfl rfl (HR.out _) (by have := HL.out; omega) ?_
       intro g5 v5 w5 ho5 hO5 hg5
       obtain ⟨A5, cap5, hv5⟩ := ho5.slice
       subst hv5
       obtain ⟨z2, v0, y2⟩ := HF.out _ _ hO5
       have HY : Hid (∀ (x : Int) (m : Nat), x = ((b + l.length : Nat) : Int) → m = (l ++ ys).length → DkA w B p g b s l ys (.returned (.tuple #[.int .i64 x, .int .i64 0])) (w5.setCell ⟨p, 2, none⟩ (.slice A5 m cap5))) := Lib.hid (fun x m hx hm => by subst hx hm; exact HA.out _ _ _ _ _ ho5 hO5 hg5 HL.out)
       clear ho5 hO5 hg5))
  go_ret2
  exact HY.out _ _ (by simp) (by simp)
theorem HeldAt.zero {w : World} {p g cap : Nat} {A : Option Addr} {l : List UInt8} (h : HeldAt w p g (.slice A l.length cap) l) : HeldAt w p g (.slice A 0 0) [] := by
  rcases h with ⟨e, rfl, hg⟩ | ⟨hne, o, cap', e, ho⟩
  · injection e with e1 e2 e3
    subst e1
    exact .inl ⟨rfl, rfl, hg⟩
  · injection e with e1 e2 e3
    subst e1
    exact .inr ⟨hne, o, 0, rfl, ho.none_⟩
theorem HeldAt.part {w : World} {p g cap : Nat} {A : Option Addr} {l : List UInt8} (h : HeldAt w p g (.slice A l.length cap) l) {k k2 : Nat} (hk : k ≤ k2) (hk2 : k2 ≤ l.length) : HeldAt w p g (.slice (A.map fun x => x.add k) (k2 - k) (k2 - k)) ((l.drop k).take (k2 - k)) := by
  rcases h with ⟨e, rfl, hg⟩ | ⟨hne, o, cap', e, ho⟩
  · injection e with e1 e2 e3
    subst e1
    have : k2 - k = 0 := by simp at hk2; omega
    rw [this]
    exact .inl ⟨rfl, by simp, hg⟩
  · injection e with e1 e2 e3
    subst e1 e3
    have h1 := (ho.drop (k := k) (by omega)).cut (k := k2 - k) (by rw [List.length_drop]; omega)
    have hl : ((l.drop k).take (k2 - k)).length = k2 - k := by rw [List.length_take, List.length_drop]; omega
    refine .inr ⟨hne, o + k, k2 - k, ?_, h1⟩
    rw [hl, Option.map_some, Addr.add_lit]
/-- what between answers -/
def BtT (w : World) (p g b i j : Nat) (l : List UInt8) (e : Ending) (w' : World) : Prop := ∃ A n m, e = .returned (.slice A m m) ∧ m = j - i ∧ HeldAt w p g (.slice A m m) ((l.drop (i - b)).take (j - i)) ∧ w' = w.drewN n
set_option maxRecDepth 100000 in
set_option maxHeartbeats 1000000 in
theorem between_any {w : World} {B p g b s : Nat} {l : List UInt8} (h : Dk w B p g b s l) (i j : Nat) (hi : b ≤ i) (hij : i ≤ j) (hj : j ≤ b + l.length) :
    Calls Try.prog 33 #[.pointer (some ⟨p, 0, none⟩), .int .i64 (i : Int), .int .i64 (j : Int)] w (BtT w p g b i j l) := by
  obtain ⟨A, cap, h1, h2⟩ := h.box
  have hrm : l.length ≤ cap := by
    rcases h2 with ⟨e, rfl, _⟩ | ⟨_, o, cap', e, ho⟩
    · simp
    · injection e with e1 e2 e3
      subst e3
      exact ho.room
  have hsm := h.small
  have HZ := Lib.hid h2.zero
  have HP := Lib.hid (h2.part (k := i - b) (k2 := j - b) (by omega) (by omega))
  obtain ⟨x0, x1, x2⟩ := box3 h1
  have hbi : (b : Int) ≤ i := by omega
  have hiji : (i : Int) ≤ j := by omega
  have hji : (j : Int) ≤ b + (l.length : Int) := by omega
  have hjc : (j : Int) - b ≤ cap := by omega
  have hji2 : (j : Int) ≤ 100000 := by omega
  clear h1 h2 h
  go_enter Try.func33, Try.ntmps33
  go_wp2_with fail
  go_quiet (fail)
  go_wp2_with fail
  · have hz : j - i = 0 := by omega
    go_ret
    exact ⟨_, _, _, rfl, hz.symm, by rw [hz, List.take_zero]; exact HZ.out, rfl⟩
  · have hz : j - b - (i - b) = j - i := by omega
    go_ret
    refine ⟨_, _, _, rfl, hz, ?_, rfl⟩
    have := HP.out
    rw [hz] at this ⊢
    exact this
/-- what Clone answers -/
def CloneTo (w : World) (l : List UInt8) (e : Ending) (w' : World) : Prop := ∃ v, e = .returned v ∧ OwnB w' w.heap.size v l ∧ Below w.heap.size w w'
set_option maxRecDepth 100000 in
theorem clone_any (l : List UInt8) (a : Addr) (n cap : Nat) (hn : l.length = n) (w : World) (hl : l.length ≤ 100000) (hr : RdB w w.heap.size (some a) l) : Calls Try.prog 32 #[.slice (some a) n cap] w (CloneTo w l) := by
  subst hn
  obtain ⟨i0, hi, hz0, hz1, hz2⟩ := info_parts info8
  have hnil : ∀ (w : World) (a : Option Addr) (n c n' c' : Nat), (binOp .eql 56 (.slice a n c) (.slice none n' c')).run Try.prog w = .ok (.bool a.isNone) w := fun w a n c n' c' => Lib.run_eql_slice_nil w _ _ a n c n' c' Try.underlying56
  have HR := Lib.hid hr
  have HL : Hid (([] : List UInt8).length + l.length ≤ 1000000) := Lib.hid (by simp; omega)
  clear hr hl
  go_enter Try.func32, Try.ntmps32
  go_wp2_with (at_builtin
               have h1 := own_empty (Nat.le_refl w.heap.size) 0
               have h2 := HR.out.below (alloc_below w (.cells #[] 5)) (Nat.le_refl _)
               refine wpList_appB (xs := []) (ys := l) (B := w.heap.size) rfl _ _ 56 rfl Try.underlying56 hi hz0 hz1 hz2 rfl h1 rfl rfl h2 HL.out (by simp) ?_
               intro v5 w5 ho5 hg5
               have HY : Hid (CloneTo w l (.returned v5) w5) := Lib.hid ⟨v5, rfl, ho5, grew_below (alloc_below w (.cells #[] 5)) h1.ge hg5⟩
               clear ho5 hg5 h1 h2)
  go_ret
  exact HY.out
theorem clone_nil (n cap : Nat) (w : World) : Calls Try.prog 32 #[.slice none n cap] w (CloneTo w []) := by
  have hnil : ∀ (w : World) (a : Option Addr) (n c n' c' : Nat), (binOp .eql 56 (.slice a n c) (.slice none n' c')).run Try.prog w = .ok (.bool a.isNone) w := fun w a n c n' c' => Lib.run_eql_slice_nil w _ _ a n c n' c' Try.underlying56
  go_enter Try.func32, Try.ntmps32
  go_wp2_with fail
  go_ret
  exact ⟨_, rfl, OwnB.nil _ _, Below.refl _ _⟩
/-- Clone of a slice that a disk holds -/
theorem clone_held {w : World} {p g n cap : Nat} {A : Option Addr} {l : List UInt8} (h : HeldAt w p g (.slice A n cap) l) (hl : l.length ≤ 100000) : Calls Try.prog 32 #[.slice A n cap] w (CloneTo w l) := by
  obtain ⟨hr, hn⟩ := h.rd
  rcases A with _ | a
  · have : l = [] := by
      rcases l with _ | ⟨y, t⟩
      · rfl
      · obtain ⟨_, e, _⟩ := hr (by simp); cases e
    subst this
    exact clone_nil n cap w
  · exact clone_any l a n cap hn.symm w hl hr
end Go.Proofs.Ytknolgcbaoppcaa
