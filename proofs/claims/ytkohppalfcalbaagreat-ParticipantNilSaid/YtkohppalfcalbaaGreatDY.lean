/- Package disk: Append, between. -/
import Derived.Test.YtkohppalfcalbaaGreatDX
import Derived.Lib.SlBytesConst
import Derived.Test.YtkohppalfcalbaaGreatKX
namespace Go.Proofs.YtkohppalfcalbaaGreat
section
open Go.RowKit

theorem HeldAt.slice {w : World} {p g : Nat} {v : Value} {l : List UInt8} (h : HeldAt w p g v l) : ∃ A cap, v = .slice A l.length cap := by
  rcases h with ⟨rfl, rfl, _⟩ | ⟨_, o, cap, rfl, _⟩
  · exact ⟨_, _, rfl⟩
  · exact ⟨_, _, rfl⟩
theorem Dk.dlt {w : World} {B p g b s : Nat} {l : List UInt8} (h : Dk w B p g b s l) : g < w.heap.size := by
  have := h.lt
  obtain ⟨A, cap, _, h2⟩ := h.box
  rcases h2 with ⟨_, _, rfl⟩ | ⟨_, _, _, _, ho⟩
  · exact this
  · exact ho.lt
/-- what Append answers where there is room -/
def DkA (w : World) (B p g b s : Nat) (l ys : List UInt8) (e : Ending) (w' : World) : Prop :=
  e = .returned (.tuple #[.int .i64 ((b + l.length : Nat) : Int), .int .i64 0]) ∧ ∃ g', Dk w' B p g' b s (l ++ ys) ∧ Only (fun k => k = p ∨ k = g) w w' ∧ (g' = g ∨ w.heap.size ≤ g')
theorem dk_app {w w1 w2 : World} {B p g g' b s : Nat} {l ys : List UInt8} {A' : Option Addr} {cap' : Nat} (h : Dk w B p g b s l) (hB : B ≤ w.heap.size) (hb : Below w.heap.size w w1) (h1 : HeldAt w2 p g' (.slice A' (l ++ ys).length cap') (l ++ ys)) (hO : Only (fun k => k = g ∧ k ≠ p) w1 w2) (hg : g' = g ∨ w1.heap.size ≤ g') (hs : b + l.length + ys.length ≤ 100000) :
    DkA w B p g b s l ys (.returned (.tuple #[.int .i64 ((b + l.length : Nat) : Int), .int .i64 0])) (w2.setCell ⟨p, 2, none⟩ (.slice A' (l ++ ys).length cap')) := by
  have hsz := hb.size
  obtain ⟨A, cap, h3, _⟩ := (h.below hb).box
  have hp : p < w1.heap.size := (Array.getElem?_eq_some_iff.1 h3).1
  have h4 := (hO.block p hp (fun e => e.2 rfl)).trans h3
  refine ⟨rfl, g', ⟨⟨A', cap', ?_, h1.only (Only.set w2 p 2 _) (fun hne => hne)⟩, ⟨h.ge.1, ?_⟩, h.bs, by have := h.se; rw [List.length_append]; omega, by rw [List.length_append]; omega⟩, ?_, ?_⟩
  · simp [World.setCell, Array.getElem?_modify, h4]
  · rcases hg with rfl | hg
    · exact h.ge.2
    · omega
  · refine (Only.of_below hb).trans ((hO.more (L := fun k => k = p ∨ k = g) (fun _ _ e => .inr e.1)).trans (Only.set w2 p 2 _) (fun _ _ e => .inl e)) (fun _ _ e => e)
  · rcases hg with rfl | hg
    · exact .inl rfl
    · exact .inr (by omega)
theorem dk_free {w w1 w2 : World} {B p g b s : Nat} {l : List UInt8} (h : Dk w B p g b s l) (hb : Below w.heap.size w w1) (hO : Only (fun k => k = g ∧ k ≠ p) w1 w2) : w2.frozen? ⟨p, 2, none⟩ = false ∧ ∃ v, w2.cell? ⟨p, 2, none⟩ = some v := by
  obtain ⟨A, cap, h3, _⟩ := (h.below hb).box
  have hp : p < w1.heap.size := (Array.getElem?_eq_some_iff.1 h3).1
  have h4 := (hO.block p hp (fun e => e.2 rfl)).trans h3
  exact ⟨free3 h4 2, _, (box3 h4).2.2⟩
set_option maxRecDepth 100000 in
set_option maxHeartbeats 1000000 in
theorem append_any {w : World} {B p g b s : Nat} {l : List UInt8} (h : Dk w B p g b s l) (hB : B ≤ w.heap.size) (ys : List UInt8) (C : Option Addr) (n c : Nat) (hn : ys.length = n) (hr : RdB w w.heap.size C ys) (hs : b + l.length + ys.length ≤ 100000) :
    Calls Tryz.prog 133 #[.pointer (some ⟨p, 0, none⟩), .slice C n c] w (DkA w B p g b s l ys) := by
  subst hn
  obtain ⟨i0, hi, hz0, hz1, hz2⟩ := info_parts info8
  have HE := Lib.hid (end_any h)
  have HR : Hid (∀ n, RdB (w.drewN n) w.heap.size C ys) := Lib.hid fun n => hr.below (drewN_below w n) (Nat.le_refl _)
  have HA := Lib.hid (fun n w2 g' A' cap' => dk_app (w1 := w.drewN n) (w2 := w2) (g' := g') (A' := A') (cap' := cap') (ys := ys) h hB (drewN_below w n))
  have HF := Lib.hid (fun n w2 => dk_free (w1 := w.drewN n) (w2 := w2) h (drewN_below w n))
  have HL : Hid (b + l.length + ys.length ≤ 100000) := Lib.hid hs
  have HLT := Lib.hid h.lt
  obtain ⟨A, cap, h1, h2⟩ := h.box
  have HO : Hid (∀ n, HeldAt (w.drewN n) p g (.slice A l.length cap) l) := Lib.hid fun n => by
    rcases h2 with h2 | ⟨hne, o, cap', hv, ho⟩
    · exact .inl h2
    · exact .inr ⟨hne, o, cap', hv, ho.keep (Nat.le_refl _) rfl⟩
  obtain ⟨x0, x1, x2⟩ := box3 h1
  have hnot : ¬ (1048576 - (l.length : Int) < (ys.length : Int)) := by omega
  have hli : (l.length : Int) ≤ 100000 := by omega
  clear h1 h2 h hr hs hB
  go_enter Tryz.func133, Tryz.ntmps133
  go_wp2_with (first
    | (go_at_call 59; refine HE.out.mono ?_; rintro e w2 ⟨rfl, n, rfl⟩)
    | (at_builtin
       refine wpList_appH rfl _ _ 22 rfl Tryz.underlying22 hi hz0 hz1 hz2 rfl (HO.out _) HLT.out rfl rfl (HR.out _) (by have := HL.out; omega) ?_
       intro g5 v5 w5 ho5 hO5 hg5
       obtain ⟨A5, cap5, hv5⟩ := ho5.slice
       subst hv5
       obtain ⟨z2, v0, y2⟩ := HF.out _ _ hO5
       have HY : Hid (∀ (x : Int) (m : Nat), x = ((b + l.length : Nat) : Int) → m = (l ++ ys).length → DkA w B p g b s l ys (.returned (.tuple #[.int .i64 x, .int .i64 0])) (w5.setCell ⟨p, 2, none⟩ (.slice A5 m cap5))) := Lib.hid (fun x m hx hm => by subst hx hm; exact HA.out _ _ _ _ _ ho5 hO5 hg5 HL.out)
       clear ho5 hO5 hg5))
  go_ret2
  exact HY.out _ _ (by simp) (by simp)
theorem HeldAt.zero {w : World} {p g cap : Nat} {A : Option Addr} {l : List UInt8} (h : HeldAt w p g (.slice A l.length cap) l) : HeldAt w p g (.slice A 0 0) [] := by
  rcases h with ⟨e, rfl, hg⟩ | ⟨hne, o, cap', e, ho⟩
  · injection e with e1 e2 e3
    subst e1
    exact .inl ⟨rfl, rfl, hg⟩
  · injection e with e1 e2 e3
    subst e1
    exact .inr ⟨hne, o, 0, rfl, ho.none_⟩
theorem HeldAt.part {w : World} {p g cap : Nat} {A : Option Addr} {l : List UInt8} (h : HeldAt w p g (.slice A l.length cap) l) {k k2 : Nat} (hk : k ≤ k2) (hk2 : k2 ≤ l.length) : HeldAt w p g (.slice (A.map fun x => x.add k) (k2 - k) (k2 - k)) ((l.drop k).take (k2 - k)) := by
  rcases h with ⟨e, rfl, hg⟩ | ⟨hne, o, cap', e, ho⟩
  · injection e with e1 e2 e3
    subst e1
    have : k2 - k = 0 := by simp at hk2; omega
    rw [this]
    exact .inl ⟨rfl, by simp, hg⟩
  · injection e with e1 e2 e3
    subst e1 e3
    have h1 := (ho.drop (k := k) (by omega)).cut (k := k2 - k) (by rw [List.length_drop]; omega)
    have hl : ((l.drop k).take (k2 - k)).length = k2 - k := by rw [List.length_take, List.length_drop]; omega
    refine .inr ⟨hne, o + k, k2 - k, ?_, h1⟩
    rw [hl, Option.map_some, Addr.add_lit]
/-- what between answers -/
def BtT (w : World) (p g b i j : Nat) (l : List UInt8) (e : Ending) (w' : World) : Prop := ∃ A n m, e = .returned (.slice A m m) ∧ m = j - i ∧ HeldAt w p g (.slice A m m) ((l.drop (i - b)).take (j - i)) ∧ w' = w.drewN n
set_option maxRecDepth 100000 in
set_option maxHeartbeats 1000000 in
theorem between_any {w : World} {B p g b s : Nat} {l : List UInt8} (h : Dk w B p g b s l) (i j : Nat) (hi : b ≤ i) (hij : i ≤ j) (hj : j ≤ b + l.length) :
    Calls Tryz.prog 72 #[.pointer (some ⟨p, 0, none⟩), .int .i64 (i : Int), .int .i64 (j : Int)] w (BtT w p g b i j l) := by
  obtain ⟨A, cap, h1, h2⟩ := h.box
  have hrm : l.length ≤ cap := by
    rcases h2 with ⟨e, rfl, _⟩ | ⟨_, o, cap', e, ho⟩
    · simp
    · injection e with e1 e2 e3
      subst e3
      exact ho.room
  have hsm := h.small
  have HZ := Lib.hid h2.zero
  have HP := Lib.hid (h2.part (k := i - b) (k2 := j - b) (by omega) (by omega))
  obtain ⟨x0, x1, x2⟩ := box3 h1
  have hbi : (b : Int) ≤ i := by omega
  have hiji : (i : Int) ≤ j := by omega
  have hji : (j : Int) ≤ b + (l.length : Int) := by omega
  have hjc : (j : Int) - b ≤ cap := by omega
  have hji2 : (j : Int) ≤ 100000 := by omega
  clear h1 h2 h
  go_enter Tryz.func72, Tryz.ntmps72
  go_wp2_with fail
  go_quiet (fail)
  go_wp2_with fail
  · have hz : j - i = 0 := by omega
    go_ret
    exact ⟨_, _, _, rfl, hz.symm, by rw [hz, List.take_zero]; exact HZ.out, rfl⟩
  · have hz : j - b - (i - b) = j - i := by omega
    go_ret
    refine ⟨_, _, _, rfl, hz, ?_, rfl⟩
    have := HP.out
    rw [hz] at this ⊢
    exact this
/-- what Clone answers -/
def CloneTo (w : World) (l : List UInt8) (e : Ending) (w' : World) : Prop := ∃ v, e = .returned v ∧ OwnB w' w.heap.size v l ∧ Below w.heap.size w w'
set_option maxRecDepth 100000 in
theorem clone_any (l : List UInt8) (a : Addr) (n cap : Nat) (hn : l.length = n) (w : World) (hl : l.length ≤ 100000) (hr : RdB w w.heap.size (some a) l) : Calls Tryz.prog 71 #[.slice (some a) n cap] w (CloneTo w l) := by
  subst hn
  obtain ⟨i0, hi, hz0, hz1, hz2⟩ := info_parts info8
  have hnil : ∀ (w : World) (a : Option Addr) (n c n' c' : Nat), (binOp .eql 22 (.slice a n c) (.slice none n' c')).run Tryz.prog w = .ok (.bool a.isNone) w := fun w a n c n' c' => Lib.run_eql_slice_nil w _ _ a n c n' c' Tryz.underlying22
  have HR := Lib.hid hr
  have HL : Hid (([] : List UInt8).length + l.length ≤ 1000000) := Lib.hid (by simp; omega)
  clear hr hl
  go_enter Tryz.func71, Tryz.ntmps71
  go_wp2_with (at_builtin
               have h1 := own_empty (Nat.le_refl w.heap.size) 0
               have h2 := HR.out.below (alloc_below w (.cells #[] 5)) (Nat.le_refl _)
               refine wpList_appB (xs := []) (ys := l) (B := w.heap.size) rfl _ _ 22 rfl Tryz.underlying22 hi hz0 hz1 hz2 rfl h1 rfl rfl h2 HL.out (by simp) ?_
               intro v5 w5 ho5 hg5
               have HY : Hid (CloneTo w l (.returned v5) w5) := Lib.hid ⟨v5, rfl, ho5, grew_below (alloc_below w (.cells #[] 5)) h1.ge hg5⟩
               clear ho5 hg5 h1 h2)
  go_ret
  exact HY.out
theorem clone_nil (n cap : Nat) (w : World) : Calls Tryz.prog 71 #[.slice none n cap] w (CloneTo w []) := by
  have hnil : ∀ (w : World) (a : Option Addr) (n c n' c' : Nat), (binOp .eql 22 (.slice a n c) (.slice none n' c')).run Tryz.prog w = .ok (.bool a.isNone) w := fun w a n c n' c' => Lib.run_eql_slice_nil w _ _ a n c n' c' Tryz.underlying22
  go_enter Tryz.func71, Tryz.ntmps71
  go_wp2_with fail
  go_ret
  exact ⟨_, rfl, OwnB.nil _ _, Below.refl _ _⟩
/-- Clone of a slice that a disk holds -/
theorem clone_held {w : World} {p g n cap : Nat} {A : Option Addr} {l : List UInt8} (h : HeldAt w p g (.slice A n cap) l) (hl : l.length ≤ 100000) : Calls Tryz.prog 71 #[.slice A n cap] w (CloneTo w l) := by
  obtain ⟨hr, hn⟩ := h.rd
  rcases A with _ | a
  · have : l = [] := by
      rcases l with _ | ⟨y, t⟩
      · rfl
      · obtain ⟨_, e, _⟩ := hr (by simp); cases e
    subst this
    exact clone_nil n cap w
  · exact clone_any l a n cap hn.symm w hl hr
end

section
open Go.RowKit

set_option maxRecDepth 100000 in
set_option maxHeartbeats 1000000 in
theorem read_yes {w : World} {B p g b s : Nat} {l : List UInt8} (h : Dk w B p g b s l) (i j : Nat) (hi : b ≤ i) (hij : i ≤ j) (hj : j ≤ b + l.length) :
    Calls Tryz.prog 74 #[.pointer (some ⟨p, 0, none⟩), .int .i64 (i : Int), .int .i64 (j : Int)] w (fun e w' => ∃ v, e = .returned (.tuple #[v, .int .i64 0]) ∧ OwnB w' w.heap.size v ((l.drop (i - b)).take (j - i)) ∧ Below w.heap.size w w') := by
  have HE := Lib.hid (end_any h)
  have HB : Hid (∀ n, Calls Tryz.prog 72 #[.pointer (some ⟨p, 0, none⟩), .int .i64 (i : Int), .int .i64 (j : Int)] (w.drewN n) (BtT (w.drewN n) p g b i j l)) := Lib.hid fun n => between_any (h.below (drewN_below w n)) i j hi hij hj
  have HDW : Hid (∀ n, Below w.heap.size w (w.drewN n)) := Lib.hid fun n => drewN_below w n
  have HL : Hid (((l.drop (i - b)).take (j - i)).length ≤ 100000) := Lib.hid (by have := h.small; rw [List.length_take]; omega)
  have hsm := h.small
  obtain ⟨A, cap, h1, h2⟩ := h.box
  obtain ⟨x0, x1, x2⟩ := box3 h1
  have hbi : ¬ ((i : Int) < b) := by omega
  have hiji : ¬ ((j : Int) < i) := by omega
  have hji : ¬ ((b : Int) + (l.length : Int) < j) := by omega
  clear h1 h2 h hsm
  go_enter Tryz.func74, Tryz.ntmps74
  go_wp2_with (first
    | (go_at_call 59; refine HE.out.mono ?_; rintro e w2 ⟨rfl, n, rfl⟩; simp only [Int.natCast_add])
    | (go_at_call 72; refine (HB.out _).mono ?_; rintro e w2 ⟨A2, n2, m2, rfl, hm2, hh2, rfl⟩
       have HC := Lib.hid (fun n => clone_held (hh2.heap (w' := w.drewN n) rfl) HL.out)
       clear hh2 hm2)
    | (go_at_call 71; refine (HC.out _).mono ?_; rintro e w3 ⟨v3, rfl, ho3, hb3⟩
       have HY := Lib.hid (And.intro ho3 ((HDW.out _).trans hb3))
       clear ho3 hb3))
  go_ret2
  exact ⟨_, rfl, HY.out⟩
theorem dk_cut {w w1 : World} {B p g b s k m : Nat} {l : List UInt8} {A : Option Addr} (h : Dk w B p g b s l) (e : w1.heap = w.heap) (hk : b ≤ k) (hk2 : k ≤ b + l.length) (hm : m = k - b) (h1 : HeldAt w p g (.slice A m m) (l.take (k - b))) :
    Dk ((w1.setCell ⟨p, 2, none⟩ (.slice A m m)).setCell ⟨p, 1, none⟩ (.int .i64 (k : Int))) B p g b k (l.take (k - b)) ∧ Only (fun j => j = p) w1 ((w1.setCell ⟨p, 2, none⟩ (.slice A m m)).setCell ⟨p, 1, none⟩ (.int .i64 (k : Int))) := by
  subst hm
  have hl : (l.take (k - b)).length = k - b := by rw [List.length_take]; omega
  have hO := (Only.set w1 p 2 (.slice A (k - b) (k - b))).trans (Only.set _ p 1 (.int .i64 (k : Int))) (fun _ _ e => e)
  obtain ⟨A1, cap1, h2, _⟩ := (h.heap e).box
  refine ⟨⟨⟨A, k - b, ?_, ?_⟩, h.ge, hk, by omega, by have := h.small; omega⟩, hO⟩
  · rw [hl]
    simp [World.setCell, Array.getElem?_modify, h2]
  · rw [hl]
    exact (h1.heap e).only hO (fun hne => hne)
set_option maxRecDepth 100000 in
set_option maxHeartbeats 1000000 in
theorem cut_yes {w : World} {B p g b s : Nat} {l : List UInt8} (h : Dk w B p g b s l) (k : Nat) (hk : b ≤ k) (hk2 : k ≤ b + l.length) :
    Calls Tryz.prog 76 #[.pointer (some ⟨p, 0, none⟩), .int .i64 (k : Int)] w (DkT w B p g b k (l.take (k - b)) (.int .i64 0)) := by
  have HE := Lib.hid (end_any h)
  have HB : Hid (∀ n, Calls Tryz.prog 72 #[.pointer (some ⟨p, 0, none⟩), .int .i64 (b : Int), .int .i64 (k : Int)] (w.drewN n) (BtT (w.drewN n) p g b b k l)) := Lib.hid fun n => between_any (h.below (drewN_below w n)) b k (Nat.le_refl _) hk hk2
  have HD := Lib.hid (fun n m A (hm : m = k - b) h1 => dk_cut (w1 := w.drewN n) (m := m) (A := A) h rfl hk hk2 hm h1)
  obtain ⟨A, cap, h1, h2⟩ := h.box
  obtain ⟨x0, x1, x2⟩ := box3 h1
  have z1 := free3 h1 1
  have z2 := free3 h1 2
  have hbi : ¬ ((k : Int) < b) := by omega
  have hji : ¬ ((b : Int) + (l.length : Int) < k) := by omega
  clear h1 h2 h
  go_enter Tryz.func76, Tryz.ntmps76
  go_wp2_with (first
    | (go_at_call 59; refine HE.out.mono ?_; rintro e w2 ⟨rfl, n, rfl⟩; simp only [Int.natCast_add])
    | (go_at_call 72; refine (HB.out _).mono ?_; rintro e w2 ⟨A2, n2, m2, rfl, hm2, hh2, rfl⟩
       rw [Nat.sub_self, List.drop_zero] at hh2
       have HY := Lib.hid (fun n => HD.out n m2 A2 hm2 (hh2.heap (w' := w) rfl))
       clear hh2 hm2))
  go_ret
  exact ⟨rfl, (HY.out _).1, (Only.of_below (drewN_below w _)).trans (HY.out _).2 (fun _ _ e => e)⟩
end

section
open Go.RowKit

theorem HeldAt.dropped {w : World} {p g cap : Nat} {A : Option Addr} {l : List UInt8} (h : HeldAt w p g (.slice A l.length cap) l) {k : Nat} (hk : k ≤ l.length) : HeldAt w p g (.slice (if cap = k then A else A.map fun x => x.add k) (l.length - k) (cap - k)) (l.drop k) := by
  rcases h with ⟨e, rfl, hg⟩ | ⟨hne, o, cap', e, ho⟩
  · injection e with e1 e2 e3
    subst e1 e3
    have : k = 0 := by simpa using hk
    subst this
    exact .inl ⟨by simp, by simp, hg⟩
  · injection e with e1 e2 e3
    subst e1 e3
    by_cases hc : cap = k
    · subst hc
      have hz : l.drop cap = [] := List.drop_eq_nil_of_le ho.room
      have hr := ho.room
      rw [if_pos rfl, hz, Nat.sub_self]
      exact .inr ⟨hne, o, 0, by simp; omega, ho.none_⟩
    · rw [if_neg hc]
      exact .inr ⟨hne, o + k, cap - k, by rw [Option.map_some, Addr.add_lit, List.length_drop], ho.drop hk⟩
end

section
open Go.RowKit

/-- what a call that turns the disk alone leaves, seen from below -/
theorem Only.dk {w w' : World} {B p g : Nat} (hO : Only (fun k => k = p ∨ k = g) w w') (hB : B ≤ w.heap.size) (hp : B ≤ p) (hg : B ≤ g) : Below B w w' := hO.below hB (fun j h => by rcases h with rfl | rfl <;> omega)
end

section
open Go.RowKit

theorem conv_rd {w : World} {B n cap : Nat} {A : Option Addr} {l : List UInt8} (h : RdB w B A l) (hn : l.length = n) (s : ByteArray) (hs : s.data.toList = l) : (convert 22 9 (.slice A n cap)).run Tryz.prog w = .ok (.string s) w := by
  subst hn hs
  cases A with
  | none =>
    have : s.data.toList = [] := by
      rcases hl : s.data.toList with _ | ⟨y, t⟩
      · rfl
      · obtain ⟨_, e, _⟩ := h (by rw [hl]; simp); cases e
    have hs : s = ByteArray.empty := bytes_ext (by rw [this]; rfl)
    rw [run_convert_bytes_nil w _ _ Tryz.underlying22 Tryz.underlying5 _ _ _ Tryz.underlying9, hs]
  | some ad =>
    have hb := run_convert_bytes_back (P := Tryz.prog) w 22 9 5 ad cap s.data.toList Tryz.underlying22 Tryz.underlying5 Tryz.underlying9 (fun j hj => by
      obtain ⟨ad', e, _, hc⟩ := h (fun e => by rw [e] at hj; simp at hj)
      injection e with e
      subst e
      exact hc j _ (List.getElem?_eq_getElem hj))
    have e : (⟨s.data.toList.toArray⟩ : ByteArray) = s := bytes_ext (by simp)
    rw [e] at hb
    exact hb
end

section
open Go.RowKit

theorem end_at {w : World} {B p g b s : Nat} {l : List UInt8} (h : Dk w B p g b s l) (m : Int) (hm : m = ((b + l.length : Nat) : Int)) : Calls Tryz.prog 59 #[.pointer (some ⟨p, 0, none⟩)] w (LooksN (.int .i64 m) w) := by
  subst hm
  exact end_any h
/-- what Append answers where there is room -/
def DkB (w : World) (B p g b s : Nat) (m : Int) (l' : List UInt8) (e : Ending) (w' : World) : Prop :=
  e = .returned (.tuple #[.int .i64 m, .int .i64 0]) ∧ ∃ g', Dk w' B p g' b s l' ∧ Only (fun k => k = p ∨ k = g) w w' ∧ (g' = g ∨ w.heap.size ≤ g')
theorem append_at {w : World} {B p g b s : Nat} {l : List UInt8} (h : Dk w B p g b s l) (hB : B ≤ w.heap.size) (ys : List UInt8) (C : Option Addr) (n c : Nat) (hn : ys.length = n) (hr : RdB w w.heap.size C ys) (hs : b + l.length + ys.length ≤ 100000) (m : Int) (hm : m = ((b + l.length : Nat) : Int)) (l' : List UInt8) (hl : l' = l ++ ys) :
    Calls Tryz.prog 133 #[.pointer (some ⟨p, 0, none⟩), .slice C n c] w (DkB w B p g b s m l') := by
  subst hm hl
  exact append_any h hB ys C n c hn hr hs
theorem sync_at {w : World} {B p g b s : Nat} {l : List UInt8} (h : Dk w B p g b s l) (s' : Nat) (hs : s' = b + l.length) : Calls Tryz.prog 77 #[.pointer (some ⟨p, 0, none⟩)] w (DkT w B p g b s' l (.int .i64 0)) := by
  subst hs
  exact sync_any h
/-- what Read answers where the bytes are -/
def RdY (w : World) (l' : List UInt8) (e : Ending) (w' : World) : Prop := ∃ v, e = .returned (.tuple #[v, .int .i64 0]) ∧ OwnB w' w.heap.size v l' ∧ Below w.heap.size w w'
theorem read_at {w : World} {B p g b s : Nat} {l : List UInt8} (h : Dk w B p g b s l) (i j : Nat) (hi : b ≤ i) (hij : i ≤ j) (hj : j ≤ b + l.length) (x y : Int) (hx : x = (i : Int)) (hy : y = (j : Int)) (l' : List UInt8) (hl : l' = (l.drop (i - b)).take (j - i)) :
    Calls Tryz.prog 74 #[.pointer (some ⟨p, 0, none⟩), .int .i64 x, .int .i64 y] w (RdY w l') := by
  subst hx hy hl
  exact read_yes h i j hi hij hj
theorem box2 {w : World} {b : Nat} {x y : Value} {t : TypeId} {fr : Nat × Nat} (h : w.heap[b]? = some (.cells #[x, y] t fr)) : w.cell? ⟨b, 0, none⟩ = some x ∧ w.cell? ⟨b, 1, none⟩ = some y := by
  simp [World.cell?, h]
theorem OwnB.heap {w w' : World} {B : Nat} {v : Value} {l : List UInt8} (h : OwnB w B v l) (e : w'.heap = w.heap) : OwnB w' B v l := by
  refine ⟨⟨h.1.1, ?_⟩, h.2⟩
  rcases h.1.2 with h1 | ⟨g, cap, cur, h1, h2, h3, h4⟩
  · exact .inl h1
  · exact .inr ⟨g, cap, cur, h1, h2, by rw [e]; exact h3, h4⟩
theorem RdB.heap {w w' : World} {B : Nat} {A : Option Addr} {l : List UInt8} (h : RdB w B A l) (e : w'.heap = w.heap) : RdB w' B A l := h.keep fun k _ => by rw [e]
theorem below_drew {w w' : World} (h : Below w.drew.heap.size w.drew w') : Below w.heap.size w w' := (drew_below w).trans h
end

section
open Go.RowKit

/-- n elements of sz cells each, vs in all, are the call's own: in block g from place o on, with room for cap of them -/
structure OwnC (w : World) (g o cap sz n : Nat) (vs : List Value) : Prop where
  lt : g < w.heap.size
  len : vs.length = n * sz
  room : n ≤ cap
  free : ∀ j, j < cap * sz → (w.cell? ⟨g, o + j, none⟩).isSome = true ∧ w.frozen? ⟨g, o + j, none⟩ = false
  cell : ∀ j u, vs[j]? = some u → w.cell? ⟨g, o + j, none⟩ = some u
theorem OwnC.keep {w w' : World} {g o cap sz n : Nat} {vs : List Value} (h : OwnC w g o cap sz n vs) (hs : w.heap.size ≤ w'.heap.size) (hb : w'.heap[g]? = w.heap[g]?) : OwnC w' g o cap sz n vs :=
  ⟨Nat.lt_of_lt_of_le h.lt hs, h.len, h.room, fun j hj => by
    rw [World.cell?_of_block (a := ⟨g, o + j, none⟩) hb, World.frozen?_of_block (a := ⟨g, o + j, none⟩) hb]
    exact h.free j hj, fun j c hj => by
    rw [World.cell?_of_block (a := ⟨g, o + j, none⟩) hb]
    exact h.cell j c hj⟩
theorem OwnC.only {K : Nat → Prop} {w w' : World} {g o cap sz n : Nat} {vs : List Value} (h : OwnC w g o cap sz n vs) (hO : Only K w w') (hK : ¬ K g) : OwnC w' g o cap sz n vs := h.keep hO.size (hO.block g h.lt hK)
theorem OwnC.heap {w w' : World} {g o cap sz n : Nat} {vs : List Value} (h : OwnC w g o cap sz n vs) (e : w'.heap = w.heap) : OwnC w' g o cap sz n vs := h.keep (by rw [e]; exact Nat.le_refl _) (by rw [e])
theorem ownC_of_row {w : World} {B g cap sz n m : Nat} {e : TypeId} {vs : List Value} (h : w.ownsRow B e sz (.slice (some ⟨g, 0, none⟩) m cap) n vs) : OwnC w g 0 cap sz n vs ∧ m = n ∧ B ≤ g := by
  obtain ⟨hlen, h2⟩ := h
  have h0 : w.ownsRow B e sz (.slice (some ⟨g, 0, none⟩) m cap) n vs := ⟨hlen, h2⟩
  rcases h2 with ⟨e1, _⟩ | ⟨g', cap', cur, e1, hg, hh, hnc, _, hsz, ht⟩
  · cases e1
  · injection e1 with e1 e2 e3
    injection e1 with e1
    injection e1 with e1
    subst e1 e2 e3
    refine ⟨⟨(Array.getElem?_eq_some_iff.1 hh).1, hlen, hnc, fun j hj => ?_, fun j u hj => ?_⟩, rfl, hg⟩
    · rw [Nat.zero_add, cell_of_row w g j cur _ (0, 0) hh]
      refine ⟨?_, ?_⟩
      · rw [Array.getElem?_eq_getElem (by omega)]; rfl
      · simp [World.frozen?, hh]
    · have h3 := h0.cells (g := g) rfl j u hj
      rw [add_plain] at h3
      rw [Nat.zero_add]; exact h3
theorem OwnC.drop {w : World} {g o cap sz n : Nat} {vs : List Value} (h : OwnC w g o cap sz n vs) {k : Nat} (hk : k ≤ n) : OwnC w g (o + k * sz) (cap - k) sz (n - k) (vs.drop (k * sz)) := by
  have hr := h.room
  have e1 : (cap - k) * sz = cap * sz - k * sz := Nat.sub_mul _ _ _
  have e2 : k * sz ≤ cap * sz := Nat.mul_le_mul_right _ (by omega)
  refine ⟨h.lt, by rw [List.length_drop, h.len, Nat.sub_mul], by omega, fun j hj => ?_, fun j c hj => ?_⟩
  · have := h.free (k * sz + j) (by omega)
    rwa [← Nat.add_assoc] at this
  · rw [List.getElem?_drop] at hj
    have := h.cell _ c hj
    rwa [← Nat.add_assoc] at this
theorem OwnC.none_ {w : World} {g o cap sz n : Nat} {vs : List Value} (h : OwnC w g o cap sz n vs) : OwnC w g o 0 sz 0 [] :=
  ⟨h.lt, by simp, Nat.le_refl _, fun j hj => by rw [Nat.zero_mul] at hj; omega, fun j c hj => by simp at hj⟩
/-- append to them -/
theorem run_appC {P : Program} {w : World} (t ty e : TypeId) {i0 : TypeInfo} {z : Value} {sz bytes : Nat} (ht : P.underlying t = some (.slice e)) (hi : P.info? e = some i0) (hz : i0.zero = some z) (hs : i0.size = sz) (hb : i0.bytes = bytes) (hzs : z.cells.size = sz) (hsp : 0 < sz)
    {g o cap n : Nat} {xs : List Value} (hown : OwnC w g o cap sz n xs) {a : Addr} {m c : Nat} {ys : List Value} (hl : ys.length = m * sz) (hr : ∀ j u, ys[j]? = some u → w.cell? (a.add j) = some u) (h1 : ∀ u ∈ ys, u.oneCell' = true) (h63 : n + m ≤ 1000000) (hby : (n + m) * bytes ≤ 140737488355328) :
    ∃ g' o' cap' w', (Builtin.append_ #[t, t] ty #[.slice (some ⟨g, o, none⟩) n cap, .slice (some a) m c]).run P w = .ok (.slice (some ⟨g', o', none⟩) (n + m) cap') w' ∧ OwnC w' g' o' cap' sz (n + m) (xs ++ ys) ∧ Only (· = g) w w' ∧ (g' = g ∨ w.heap.size ≤ g') := by
  have holds : ∀ j u, xs[j]? = some u → w.cell? ((⟨g, o, none⟩ : Addr).add j) = some u := by
    intro j u hu
    rw [Addr.add_lit]
    exact hown.cell j u hu
  by_cases hroom : n + m ≤ cap
  · have hmul : (n + m) * sz ≤ cap * sz := Nat.mul_le_mul_right _ hroom
    rw [Nat.add_mul] at hmul
    subst hs
    have hrun := run_append_room_cells (P := P) w t ty e i0 ht hi g o n cap a m c ys hl hr h1 hroom
      (fun j hj => by rw [hl] at hj; rw [Nat.add_assoc]; exact (hown.free (n * i0.size + j) (by omega)).1)
      (fun j hj => by rw [hl] at hj; rw [Nat.add_assoc]; exact (hown.free (n * i0.size + j) (by omega)).2)
    refine ⟨g, o, cap, _, hrun, ⟨?_, by rw [List.length_append, hown.len, hl, Nat.add_mul], hroom, fun j hj => ⟨isSome_sets g _ _ w _ (hown.free j hj).1, by rw [World.frozen?_setCells]; exact (hown.free j hj).2⟩, fun j d hj => ?_⟩, Only.sets g _ _ w, .inl rfl⟩
    · exact Nat.lt_of_lt_of_le hown.lt (Only.sets g _ _ w).size
    · by_cases hlt : j < xs.length
      · rw [World.cell?_setCells_out g _ _ w _ (fun _ _ => .inl (by show o + j < o + n * i0.size; rw [hown.len] at hlt; omega))]
        exact hown.cell j d (by rw [← hj, List.getElem?_append_left hlt])
      · rw [List.getElem?_append_right (by omega)] at hj
        have hjl := (List.getElem?_eq_some_iff.1 hj).1
        have hxl := hown.len
        have h2 := World.cell?_setCells_in g ys (o + n * i0.size) w (fun i hi => by
          rw [hl] at hi
          rw [Nat.add_assoc]
          exact (hown.free (n * i0.size + i) (by omega)).1) (j - xs.length) hjl
        rw [show o + n * i0.size + (j - xs.length) = o + j by omega] at h2
        rw [h2]
        congr 1
        exact (List.getElem?_eq_some_iff.1 hj).2
  · obtain ⟨v', w', hrun, h2, h3⟩ := run_append_arg_grows (P := P) w t ty e i0 z sz bytes ht hi hz hs hb hzs hsp ⟨g, o, none⟩ n cap xs hown.len holds a m c ys hl hr (by omega) (by unfold maxLen; omega) hby
    have h4 := h2.2
    rcases h4 with ⟨_, h0⟩ | ⟨g', cap', cur, hv, hg, _⟩
    · omega
    · subst hv
      exact ⟨g', 0, cap', w', hrun, (ownC_of_row h2).1, (Only.of_grown h3).more (fun j _ e => by cases e), .inr hg⟩
/-- a slice that is nil, or of the call's own cells (in block g, which is not q) -/
def HeldC (w : World) (q g sz : Nat) (v : Value) (n : Nat) (vs : List Value) : Prop := (v = .slice none 0 0 ∧ n = 0 ∧ vs = [] ∧ g = q) ∨ (g ≠ q ∧ ∃ o cap, v = .slice (some ⟨g, o, none⟩) n cap ∧ OwnC w g o cap sz n vs)
theorem HeldC.only {K : Nat → Prop} {w w' : World} {q g sz n : Nat} {v : Value} {vs : List Value} (h : HeldC w q g sz v n vs) (hO : Only K w w') (hK : g ≠ q → ¬ K g) : HeldC w' q g sz v n vs := by
  rcases h with h | ⟨hne, o, cap, hv, ho⟩
  · exact .inl h
  · exact .inr ⟨hne, o, cap, hv, ho.only hO (hK hne)⟩
theorem HeldC.heap {w w' : World} {q g sz n : Nat} {v : Value} {vs : List Value} (h : HeldC w q g sz v n vs) (e : w'.heap = w.heap) : HeldC w' q g sz v n vs := by
  rcases h with h | ⟨hne, o, cap, hv, ho⟩
  · exact .inl h
  · exact .inr ⟨hne, o, cap, hv, ho.heap e⟩
theorem HeldC.slice {w : World} {q g sz n : Nat} {v : Value} {vs : List Value} (h : HeldC w q g sz v n vs) : ∃ A cap, v = .slice A n cap ∧ n ≤ cap ∧ vs.length = n * sz := by
  rcases h with ⟨rfl, rfl, rfl, _⟩ | ⟨_, o, cap, rfl, ho⟩
  · exact ⟨_, _, rfl, Nat.le_refl _, by simp⟩
  · exact ⟨_, _, rfl, ho.room, ho.len⟩
theorem HeldC.of_row {w : World} {B q sz n : Nat} {e : TypeId} {v : Value} {vs : List Value} (h : w.ownsRow B e sz v n vs) (hq : q < B) : ∃ g, HeldC w q g sz v n vs ∧ (g = q ∨ B ≤ g) := by
  obtain ⟨hlen, h2⟩ := h
  have h0 : w.ownsRow B e sz v n vs := ⟨hlen, h2⟩
  rcases h2 with ⟨rfl, h3⟩ | ⟨g, cap, cur, rfl, hg, hh, _⟩
  · subst h3
    have : vs = [] := List.length_eq_zero_iff.1 (by rw [hlen]; simp)
    exact ⟨q, .inl ⟨rfl, rfl, this, rfl⟩, .inl rfl⟩
  · exact ⟨g, .inr ⟨by omega, 0, cap, rfl, (ownC_of_row h0).1⟩, .inr hg⟩
/-- cells that can be read at an address below block B -/
def RdC (w : World) (B : Nat) (A : Option Addr) (vs : List Value) : Prop := vs ≠ [] → ∃ b o, A = some ⟨b, o, none⟩ ∧ b < B ∧ ∀ j u, vs[j]? = some u → w.cell? ⟨b, o + j, none⟩ = some u
theorem HeldC.rd {w : World} {q g sz n m cap : Nat} {A : Option Addr} {vs : List Value} (h : HeldC w q g sz (.slice A m cap) n vs) : RdC w w.heap.size A vs ∧ m = n := by
  rcases h with ⟨e, rfl, rfl, _⟩ | ⟨_, o, cap', e, ho⟩
  · injection e with e1 e2 e3
    exact ⟨fun h => absurd rfl h, e2⟩
  · injection e with e1 e2 e3
    subst e1
    exact ⟨fun _ => ⟨g, o, rfl, ho.lt, ho.cell⟩, e2⟩
theorem HeldC.dropped {w : World} {q g sz n m cap : Nat} {A : Option Addr} {vs : List Value} (h : HeldC w q g sz (.slice A m cap) n vs) {k : Nat} (hk : k ≤ n) : HeldC w q g sz (.slice (if cap = k then A else A.map fun x => x.add (k * sz)) (n - k) (cap - k)) (n - k) (vs.drop (k * sz)) := by
  rcases h with ⟨e, rfl, rfl, hg⟩ | ⟨hne, o, cap', e, ho⟩
  · injection e with e1 e2 e3
    subst e1 e3
    have : k = 0 := by omega
    subst this
    exact .inl ⟨by simp, rfl, by simp, hg⟩
  · injection e with e1 e2 e3
    subst e1 e3
    have hr := ho.room
    by_cases hc : cap = k
    · subst hc
      have hn : n = cap := by omega
      subst hn
      have hz : vs.drop (n * sz) = [] := List.drop_eq_nil_of_le (by rw [ho.len]; exact Nat.le_refl _)
      rw [if_pos rfl, hz, Nat.sub_self]
      exact .inr ⟨hne, o, 0, rfl, ho.none_⟩
    · rw [if_neg hc]
      exact .inr ⟨hne, o + k * sz, cap - k, by rw [Option.map_some, Addr.add_lit], ho.drop hk⟩
/-- append to it -/
theorem run_appHC {P : Program} {w : World} (t ty e : TypeId) {i0 : TypeInfo} {z : Value} {sz bytes : Nat} (ht : P.underlying t = some (.slice e)) (hi : P.info? e = some i0) (hz : i0.zero = some z) (hs : i0.size = sz) (hb : i0.bytes = bytes) (hzs : z.cells.size = sz) (hsp : 0 < sz)
    {q g n : Nat} {v : Value} {xs : List Value} (hown : HeldC w q g sz v n xs) (hq : q < w.heap.size) {a : Addr} {m c : Nat} {ys : List Value} (hl : ys.length = m * sz) (hr : ∀ j u, ys[j]? = some u → w.cell? (a.add j) = some u) (h1 : ∀ u ∈ ys, u.oneCell' = true) (h63 : n + m ≤ 1000000) (hby : (n + m) * bytes ≤ 140737488355328) :
    ∃ g' v' w', (Builtin.append_ #[t, t] ty #[v, .slice (some a) m c]).run P w = .ok v' w' ∧ HeldC w' q g' sz v' (n + m) (xs ++ ys) ∧ Only (fun k => k = g ∧ k ≠ q) w w' ∧ (g' = g ∨ w.heap.size ≤ g') := by
  rcases hown with ⟨rfl, rfl, rfl, rfl⟩ | ⟨hne, o, cap, rfl, ho⟩
  · obtain ⟨v', w', hrun, h2, h3, _, _⟩ := run_append_own_at (P := P) w w.heap.size t ty e i0 z sz bytes ht hi hz hs hb hzs hsp (.slice none 0 0) 0 [] ⟨by simp, .inl ⟨rfl, rfl⟩⟩ a m c ys hl hr h1 (by unfold maxLen; omega) (by omega) (Nat.le_refl _)
    obtain ⟨g', h4, h5⟩ := HeldC.of_row (q := g) h2 hq
    exact ⟨g', v', w', hrun, h4, (Only.of_grown h3).more (fun j _ e => by cases e), h5⟩
  · obtain ⟨g', o', cap', w', hrun, h2, h3, h4⟩ := run_appC (P := P) t ty e ht hi hz hs hb hzs hsp ho (c := c) hl hr h1 h63 hby
    refine ⟨g', _, w', hrun, .inr ⟨?_, o', cap', rfl, h2⟩, h3.more (fun j _ e => ⟨e, by omega⟩), h4⟩
    rcases h4 with rfl | h4
    · exact hne
    · omega
theorem wp_appHC {P : Program} {w : World} {o : Oper} {a : Act} {K : Act → World → Prop} {Q : Exit → Act → World → Prop} (s x : Operand) (t e : TypeId) (ho : o.op = .call { callee := .builtin .append, args := #[s, x], argTypes := #[t, t] })
    {i0 : TypeInfo} {z : Value} {sz bytes : Nat} (ht : P.underlying t = some (.slice e)) (hi : P.info? e = some i0) (hz : i0.zero = some z) (hs : i0.size = sz) (hb : i0.bytes = bytes) (hzs : z.cells.size = sz) (hsp : 0 < sz)
    {q g n : Nat} {v : Value} {xs : List Value} (hv : a.eval s = v) (hown : HeldC w q g sz v n xs) (hq : q < w.heap.size) {A : Addr} {m c : Nat} {ys : List Value} (hx : a.eval x = .slice (some A) m c) (hl : ys.length = m * sz) (hr : ∀ j u, ys[j]? = some u → w.cell? (A.add j) = some u) (h1 : ∀ u ∈ ys, u.oneCell' = true) (h63 : n + m ≤ 1000000) (hby : (n + m) * bytes ≤ 140737488355328)
    (h : ∀ g' v' w', HeldC w' q g' sz v' (n + m) (xs ++ ys) → Only (fun k => k = g ∧ k ≠ q) w w' → (g' = g ∨ w.heap.size ≤ g') → K (a.put o.dst v') w') : o.wp P a w K Q := by
  obtain ⟨g', v', w', hrun, h2, h3, h4⟩ := run_appHC (P := P) t o.type e ht hi hz hs hb hzs hsp hown hq (c := c) hl hr h1 h63 hby
  unfold Oper.wp execOp
  simp only [ho, resolve, invoke, builtin, Sem.run_bind, Sem.run_pure, Result.andThen_ok, List.map_toArray, List.map_cons, List.map_nil, hv, hx, hrun]
  exact h g' v' w' h2 h3 h4
/-- append, in a row of operations -/
theorem wpList_appHC {P : Program} {w : World} {ops : Array Oper} {rest : List Oper} {o : Oper} {a : Act} {Q : Exit → Act → World → Prop} (hgd : o.guard = none) (s x : Operand) (t e : TypeId) (ho : o.op = .call { callee := .builtin .append, args := #[s, x], argTypes := #[t, t] })
    {i0 : TypeInfo} {z : Value} {sz bytes : Nat} (ht : P.underlying t = some (.slice e)) (hi : P.info? e = some i0) (hz : i0.zero = some z) (hs : i0.size = sz) (hb : i0.bytes = bytes) (hzs : z.cells.size = sz) (hsp : 0 < sz)
    {q g n : Nat} {v : Value} {xs : List Value} (hv : a.eval s = v) (hown : HeldC w q g sz v n xs) (hq : q < w.heap.size) {A : Addr} {m c : Nat} {ys : List Value} (hx : a.eval x = .slice (some A) m c) (hl : ys.length = m * sz) (hr : ∀ j u, ys[j]? = some u → w.cell? (A.add j) = some u) (h1 : ∀ u ∈ ys, u.oneCell' = true) (h63 : n + m ≤ 1000000) (hby : (n + m) * bytes ≤ 140737488355328)
    (h : ∀ g' v' w', HeldC w' q g' sz v' (n + m) (xs ++ ys) → Only (fun k => k = g ∧ k ≠ q) w w' → (g' = g ∨ w.heap.size ≤ g') → wpList P ops Q rest (a.put o.dst v') w') : wpList P ops Q (o :: rest) a w :=
  wpList_plain hgd fun _ hK => wp_appHC s x t e ho ht hi hz hs hb hzs hsp hv hown hq hx hl hr h1 h63 hby fun g' v' w' h2 h3 h4 => hK _ _ (h g' v' w' h2 h3 h4)
end
end Go.Proofs.YtkohppalfcalbaaGreat
