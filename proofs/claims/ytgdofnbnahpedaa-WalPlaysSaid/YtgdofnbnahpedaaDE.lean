/- Package disk: Drop. -/
import Derived.Test.YtgdofnbnahpedaaDD
namespace Go.Proofs.Ytgdofnbnahpedaa
open Go.RowKit

theorem HeldAt.dropped {w : World} {p g cap : Nat} {A : Option Addr} {l : List UInt8} (h : HeldAt w p g (.slice A l.length cap) l) {k : Nat} (hk : k ≤ l.length) : HeldAt w p g (.slice (if cap = k then A else A.map fun x => x.add k) (l.length - k) (cap - k)) (l.drop k) := by
  rcases h with ⟨e, rfl, hg⟩ | ⟨hne, o, cap', e, ho⟩
  · injection e with e1 e2 e3
    subst e1 e3
    have : k = 0 := by simpa using hk
    subst this
    exact .inl ⟨by simp, by simp, hg⟩
  · injection e with e1 e2 e3
    subst e1 e3
    by_cases hc : cap = k
    · subst hc
      have hz : l.drop cap = [] := List.drop_eq_nil_of_le ho.room
      have hr := ho.room
      rw [if_pos rfl, hz, Nat.sub_self]
      exact .inr ⟨hne, o, 0, by simp; omega, ho.none_⟩
    · rw [if_neg hc]
      exact .inr ⟨hne, o + k, cap - k, by rw [Option.map_some, Addr.add_lit, List.length_drop], ho.drop hk⟩
theorem drew_heap (w : World) : w.drew.heap = w.heap := rfl
theorem dk_drop {w : World} {B p g b s k n c : Nat} {l : List UInt8} {A' : Option Addr} (h : Dk w B p g b s l) (hk : b ≤ k) (hk2 : k ≤ s) (hn : n = l.length - (k - b)) (h1 : HeldAt w p g (.slice A' n c) (l.drop (k - b))) :
    Dk (((w.setCell ⟨p, 2, none⟩ (.slice A' n c)).setCell ⟨p, 0, none⟩ (.int .i64 (k : Int))).drew) B p g k s (l.drop (k - b)) ∧ Only (fun j => j = p) w (((w.setCell ⟨p, 2, none⟩ (.slice A' n c)).setCell ⟨p, 0, none⟩ (.int .i64 (k : Int))).drew) := by
  subst hn
  have hl : (l.drop (k - b)).length = l.length - (k - b) := List.length_drop
  have hO := ((Only.set w p 2 (.slice A' (l.length - (k - b)) c)).trans (Only.set _ p 0 (.int .i64 (k : Int))) (fun _ _ e => e)).trans (Only.of_below (K := fun j => j = p) (drew_below _)) (fun _ _ e => e)
  have hse := h.se
  have hsm := h.small
  obtain ⟨A1, cap1, h2, _⟩ := h.box
  refine ⟨⟨⟨A', c, ?_, ?_⟩, h.ge, hk2, by omega, by omega⟩, hO⟩
  · rw [hl]
    simp [World.setCell, Array.getElem?_modify, h2, drew_heap]
  · rw [hl]
    exact h1.only hO (fun hne => hne)
set_option maxRecDepth 100000 in
set_option maxHeartbeats 1000000 in
theorem drop_yes {w : World} {B p g b s : Nat} {l : List UInt8} (h : Dk w B p g b s l) (k : Nat) (hk : b ≤ k) (hk2 : k ≤ s) :
    Calls Try.prog 77 #[.pointer (some ⟨p, 0, none⟩), .int .i64 (k : Int)] w (DkT w B p g k s (l.drop (k - b)) (.int .i64 0)) := by
  have hse := h.se
  have hsm := h.small
  obtain ⟨A, cap, h1, h2⟩ := h.box
  have hrm : l.length ≤ cap := by
    rcases h2 with ⟨e, rfl, _⟩ | ⟨_, o, cap', e, ho⟩
    · simp
    · injection e with e1 e2 e3
      subst e3
      exact ho.room
  have HY := Lib.hid (fun A' n c hn => dk_drop (A' := A') (n := n) (c := c) h hk hk2 hn)
  have HH := Lib.hid (h2.dropped (k := k - b) (by omega))
  obtain ⟨x0, x1, x2⟩ := box3 h1
  have z0 := free3 h1 0
  have z2 := free3 h1 2
  have hbi : ¬ ((k : Int) < b) := by omega
  have hji : ¬ ((s : Int) < k) := by omega
  have hbi2 : (b : Int) ≤ k := by omega
  have hli2 : (k : Int) - b ≤ (l.length : Int) := by omega
  have hki2 : (k : Int) ≤ 100000 := by omega
  clear h1 h2 h
  go_enter Try.func77, Try.ntmps77
  go_wp2_with fail
  go_region
  go_wp2_with fail
  · have hh := HH.out
    rw [if_pos h, h, Nat.sub_self] at hh
    go_ret
    exact ⟨rfl, HY.out _ _ _ rfl hh⟩
  · have hh := HH.out
    rw [if_neg h] at hh
    go_ret
    exact ⟨rfl, HY.out _ _ _ rfl hh⟩
set_option maxRecDepth 100000 in
theorem drop_no {w : World} {B p g b s : Nat} {l : List UInt8} (h : Dk w B p g b s l) (k : Int) (hno : ¬ ((b : Int) ≤ k ∧ k ≤ (s : Int))) :
    Calls Try.prog 77 #[.pointer (some ⟨p, 0, none⟩), .int .i64 k] w (Looks (.int .i64 1) w) := by
  obtain ⟨A, cap, h1, h2⟩ := h.box
  obtain ⟨x0, x1, x2⟩ := box3 h1
  clear h1 h2 h
  by_cases h1 : k < b
  · clear hno
    go_enter Try.func77, Try.ntmps77
    go_wp2_with fail
    go_ret
    exact ⟨rfl, rfl⟩
  · have h3 : (s : Int) < k := by omega
    clear hno
    go_enter Try.func77, Try.ntmps77
    go_wp2_with fail
    go_ret
    exact ⟨rfl, rfl⟩
end Go.Proofs.Ytgdofnbnahpedaa
