/- Package disk: Drop. -/
import Derived.Test.YtkjgiabkhemcnaaDD
namespace Go.Proofs.Ytkjgiabkhemcnaa
open Go.RowKit

theorem HeldAt.dropped {w : World} {p g cap : Nat} {A : Option Addr} {l : List UInt8} (h : HeldAt w p g (.slice A l.length cap) l) {k : Nat} (hk : k ≤ l.length) : HeldAt w p g (.slice (if cap = k then A else A.map fun x => x.add k) (l.length - k) (cap - k)) (l.drop k) := by
  rcases h with ⟨e, rfl, hg⟩ | ⟨hne, o, cap', e, ho⟩
  · injection e with e1 e2 e3
    subst e1 e3
    have : k = 0 := by simpa using hk
    subst this
    exact .inl ⟨by simp, by simp, hg⟩
  · injection e with e1 e2 e3
    subst e1 e3
    by_cases hc : cap = k
    · subst hc
      have hz : l.drop cap = [] := List.drop_eq_nil_of_le ho.room
      have hr := ho.room
      rw [if_pos rfl, hz, Nat.sub_self]
      exact .inr ⟨hne, o, 0, by simp; omega, ho.none_⟩
    · rw [if_neg hc]
      exact .inr ⟨hne, o + k, cap - k, by rw [Option.map_some, Addr.add_lit, List.length_drop], ho.drop hk⟩
theorem drew_heap (w : World) : w.drew.heap = w.heap := rfl
end Go.Proofs.Ytkjgiabkhemcnaa
