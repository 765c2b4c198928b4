/- Package disk: Drop. -/
import Derived.Test.YtknolgcbaoppcaaDD
namespace Go.Proofs.Ytknolgcbaoppcaa
open Go.RowKit

theorem HeldAt.dropped {w : World} {p g cap : Nat} {A : Option Addr} {l : List UInt8} (h : HeldAt w p g (.slice A l.length cap) l) {k : Nat} (hk : k ≤ l.length) : HeldAt w p g (.slice (if cap = k then A else A.map fun x => x.add k) (l.length - k) (cap - k)) (l.drop k) := by
  rcases h with ⟨e, rfl, hg⟩ | ⟨hne, o, cap', e, ho⟩
  · injection e with e1 e2 e3
    subst e1 e3
    have : k = 0 := by simpa using hk
    subst this
    exact .inl ⟨by simp, by simp, hg⟩
  · injection e with e1 e2 e3
    subst e1 e3
    by_cases hc : cap = k
    · subst hc
      have hz : l.drop cap = [] := List.drop_eq_nil_of_le ho.room
      have hr := ho.room
      rw [if_pos rfl, hz, Nat.sub_self]
      exact .inr ⟨hne, o, 0, by simp; omega, ho.none_⟩
    · rw [if_neg hc]
      exact .inr ⟨hne, o + k, cap - k, by rw [Option.map_some, Addr.add_lit, List.length_drop], ho.drop hk⟩
theorem drew_heap (w : World) : w.drew.heap = w.heap := rfl
theorem dk_drop {w : World} {B p g b s k n c : Nat} {l : List UInt8} {A' : Option Addr} (h : Dk w B p g b s l) (hk : b ≤ k) (hk2 : k ≤ s) (hn : n = l.length - (k - b)) (h1 : HeldAt w p g (.slice A' n c) (l.drop (k - b))) :
    Dk (((w.setCell ⟨p, 2, none⟩ (.slice A' n c)).setCell ⟨p, 0, none⟩ (.int .i64 (k : Int))).drew) B p g k s (l.drop (k - b)) ∧ Only (fun j => j = p) w (((w.setCell ⟨p, 2, none⟩ (.slice A' n c)).setCell ⟨p, 0, none⟩ (.int .i64 (k : Int))).drew) := by
  subst hn
  have hl : (l.drop (k - b)).length = l.length - (k - b) := List.length_drop
  have hO := ((Only.set w p 2 (.slice A' (l.length - (k - b)) c)).trans (Only.set _ p 0 (.int .i64 (k : Int))) (fun _ _ e => e)).trans (Only.of_below (K := fun j => j = p) (drew_below _)) (fun _ _ e => e)
  have hse := h.se
  have hsm := h.small
  obtain ⟨A1, cap1, h2, _⟩ := h.box
  refine ⟨⟨⟨A', c, ?_, ?_⟩, h.ge, hk2, by omega, by omega⟩, hO⟩
  · rw [hl]
    simp [World.setCell, Array.getElem?_modify, h2, drew_heap]
  · rw [hl]
    exact h1.only hO (fun hne => hne)
end Go.Proofs.Ytknolgcbaoppcaa
