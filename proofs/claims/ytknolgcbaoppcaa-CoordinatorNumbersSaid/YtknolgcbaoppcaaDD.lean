/- Package disk: Read, Drop, Cut. -/
import Derived.Test.YtknolgcbaoppcaaDC
namespace Go.Proofs.Ytknolgcbaoppcaa
open Go.RowKit

set_option maxRecDepth 100000 in
set_option maxHeartbeats 1000000 in
theorem read_yes {w : World} {B p g b s : Nat} {l : List UInt8} (h : Dk w B p g b s l) (i j : Nat) (hi : b ≤ i) (hij : i ≤ j) (hj : j ≤ b + l.length) :
    Calls Try.prog 55 #[.pointer (some ⟨p, 0, none⟩), .int .i64 (i : Int), .int .i64 (j : Int)] w (fun e w' => ∃ v, e = .returned (.tuple #[v, .int .i64 0]) ∧ OwnB w' w.heap.size v ((l.drop (i - b)).take (j - i)) ∧ Below w.heap.size w w') := by
  have HE := Lib.hid (end_any h)
  have HB : Hid (∀ n, Calls Try.prog 33 #[.pointer (some ⟨p, 0, none⟩), .int .i64 (i : Int), .int .i64 (j : Int)] (w.drewN n) (BtT (w.drewN n) p g b i j l)) := Lib.hid fun n => between_any (h.below (drewN_below w n)) i j hi hij hj
  have HDW : Hid (∀ n, Below w.heap.size w (w.drewN n)) := Lib.hid fun n => drewN_below w n
  have HL : Hid (((l.drop (i - b)).take (j - i)).length ≤ 100000) := Lib.hid (by have := h.small; rw [List.length_take]; omega)
  have hsm := h.small
  obtain ⟨A, cap, h1, h2⟩ := h.box
  obtain ⟨x0, x1, x2⟩ := box3 h1
  have hbi : ¬ ((i : Int) < b) := by omega
  have hiji : ¬ ((j : Int) < i) := by omega
  have hji : ¬ ((b : Int) + (l.length : Int) < j) := by omega
  clear h1 h2 h hsm
  go_enter Try.func55, Try.ntmps55
  go_wp2_with (first
    | (go_at_call 21; refine HE.out.mono ?_; rintro e w2 ⟨rfl, n, rfl⟩; simp only [Int.natCast_add])
    | (go_at_call 33; refine (HB.out _).mono ?_; rintro e w2 ⟨A2, n2, m2, rfl, hm2, hh2, rfl⟩
       have HC := Lib.hid (fun n => clone_held (hh2.heap (w' := w.drewN n) rfl) HL.out)
       clear hh2 hm2)
    | (go_at_call 32; refine (HC.out _).mono ?_; rintro e w3 ⟨v3, rfl, ho3, hb3⟩
       have HY := Lib.hid (And.intro ho3 ((HDW.out _).trans hb3))
       clear ho3 hb3))
  go_ret2
  exact ⟨_, rfl, HY.out⟩
theorem read_no {w : World} {B p g b s : Nat} {l : List UInt8} (h : Dk w B p g b s l) (i j : Int) (hno : ¬ ((b : Int) ≤ i ∧ i ≤ j ∧ j ≤ ((b + l.length : Nat) : Int))) :
    Calls Try.prog 55 #[.pointer (some ⟨p, 0, none⟩), .int .i64 i, .int .i64 j] w (LooksN (.tuple #[.slice none 0 0, .int .i64 61]) w) := by
  have HE := Lib.hid (end_any h)
  obtain ⟨A, cap, h1, h2⟩ := h.box
  obtain ⟨x0, x1, x2⟩ := box3 h1
  clear h1 h2 h
  by_cases h1 : i < b
  · clear hno
    go_enter Try.func55, Try.ntmps55
    go_wp2_with fail
    go_ret2
    exact ⟨rfl, 0, rfl⟩
  · by_cases h2 : j < i
    · clear hno
      go_enter Try.func55, Try.ntmps55
      go_wp2_with fail
      go_ret2
      exact ⟨rfl, 0, rfl⟩
    · have h3 : (b : Int) + (l.length : Int) < j := by omega
      clear hno
      go_enter Try.func55, Try.ntmps55
      go_wp2_with (go_at_call 21; refine HE.out.mono ?_; rintro e w2 ⟨rfl, n, rfl⟩; simp only [Int.natCast_add])
      go_ret2
      exact ⟨rfl, _, rfl⟩
theorem dk_cut {w w1 : World} {B p g b s k m : Nat} {l : List UInt8} {A : Option Addr} (h : Dk w B p g b s l) (e : w1.heap = w.heap) (hk : b ≤ k) (hk2 : k ≤ b + l.length) (hm : m = k - b) (h1 : HeldAt w p g (.slice A m m) (l.take (k - b))) :
    Dk ((w1.setCell ⟨p, 2, none⟩ (.slice A m m)).setCell ⟨p, 1, none⟩ (.int .i64 (k : Int))) B p g b k (l.take (k - b)) ∧ Only (fun j => j = p) w1 ((w1.setCell ⟨p, 2, none⟩ (.slice A m m)).setCell ⟨p, 1, none⟩ (.int .i64 (k : Int))) := by
  subst hm
  have hl : (l.take (k - b)).length = k - b := by rw [List.length_take]; omega
  have hO := (Only.set w1 p 2 (.slice A (k - b) (k - b))).trans (Only.set _ p 1 (.int .i64 (k : Int))) (fun _ _ e => e)
  obtain ⟨A1, cap1, h2, _⟩ := (h.heap e).box
  refine ⟨⟨⟨A, k - b, ?_, ?_⟩, h.ge, hk, by omega, by have := h.small; omega⟩, hO⟩
  · rw [hl]
    simp [World.setCell, Array.getElem?_modify, h2]
  · rw [hl]
    exact (h1.heap e).only hO (fun hne => hne)
set_option maxRecDepth 100000 in
set_option maxHeartbeats 1000000 in
theorem cut_yes {w : World} {B p g b s : Nat} {l : List UInt8} (h : Dk w B p g b s l) (k : Nat) (hk : b ≤ k) (hk2 : k ≤ b + l.length) :
    Calls Try.prog 57 #[.pointer (some ⟨p, 0, none⟩), .int .i64 (k : Int)] w (DkT w B p g b k (l.take (k - b)) (.int .i64 0)) := by
  have HE := Lib.hid (end_any h)
  have HB : Hid (∀ n, Calls Try.prog 33 #[.pointer (some ⟨p, 0, none⟩), .int .i64 (b : Int), .int .i64 (k : Int)] (w.drewN n) (BtT (w.drewN n) p g b b k l)) := Lib.hid fun n => between_any (h.below (drewN_below w n)) b k (Nat.le_refl _) hk hk2
  have HD := Lib.hid (fun n m A (hm : m = k - b) h1 => dk_cut (w1 := w.drewN n) (m := m) (A := A) h rfl hk hk2 hm h1)
  obtain ⟨A, cap, h1, h2⟩ := h.box
  obtain ⟨x0, x1, x2⟩ := box3 h1
  have z1 := free3 h1 1
  have z2 := free3 h1 2
  have hbi : ¬ ((k : Int) < b) := by omega
  have hji : ¬ ((b : Int) + (l.length : Int) < k) := by omega
  clear h1 h2 h
  go_enter Try.func57, Try.ntmps57
  go_wp2_with (first
    | (go_at_call 21; refine HE.out.mono ?_; rintro e w2 ⟨rfl, n, rfl⟩; simp only [Int.natCast_add])
    | (go_at_call 33; refine (HB.out _).mono ?_; rintro e w2 ⟨A2, n2, m2, rfl, hm2, hh2, rfl⟩
       rw [Nat.sub_self, List.drop_zero] at hh2
       have HY := Lib.hid (fun n => HD.out n m2 A2 hm2 (hh2.heap (w' := w) rfl))
       clear hh2 hm2))
  go_ret
  exact ⟨rfl, (HY.out _).1, (Only.of_below (drewN_below w _)).trans (HY.out _).2 (fun _ _ e => e)⟩
set_option maxRecDepth 100000 in
theorem cut_no {w : World} {B p g b s : Nat} {l : List UInt8} (h : Dk w B p g b s l) (k : Int) (hno : ¬ ((b : Int) ≤ k ∧ k ≤ ((b + l.length : Nat) : Int))) :
    Calls Try.prog 57 #[.pointer (some ⟨p, 0, none⟩), .int .i64 k] w (LooksN (.int .i64 1) w) := by
  have HE := Lib.hid (end_any h)
  obtain ⟨A, cap, h1, h2⟩ := h.box
  obtain ⟨x0, x1, x2⟩ := box3 h1
  clear h1 h2 h
  by_cases h1 : k < b
  · clear hno
    go_enter Try.func57, Try.ntmps57
    go_wp2_with fail
    go_ret
    exact ⟨rfl, 0, rfl⟩
  · have h3 : (b : Int) + (l.length : Int) < k := by omega
    clear hno
    go_enter Try.func57, Try.ntmps57
    go_wp2_with (go_at_call 21; refine HE.out.mono ?_; rintro e w2 ⟨rfl, n, rfl⟩; simp only [Int.natCast_add])
    go_ret
    exact ⟨rfl, _, rfl⟩
end Go.Proofs.Ytknolgcbaoppcaa
