/- TableLast: words. -/
import Derived.Test.YtfmhijaljlmgaaaYD
namespace Go.Proofs.Ytfmhijaljlmgaaa
open Go.RowKit

theorem getK_mem : ∀ {l : List (List UInt8 × List UInt8)} {k r : List UInt8}, (l.Pairwise fun a b => cmpB a.1 b.1 < 0) → (k, r) ∈ l → getK l k = some r
  | [], _, _, _, h => by simp at h
  | x :: l, k, r, hp, h => by
    obtain ⟨h1, h2⟩ := List.pairwise_cons.1 hp
    rw [List.mem_cons] at h
    simp only [getK]
    rcases h with rfl | h
    · simp [cmpB_self]
    · have h3 := h1 _ h
      simp only at h3
      have h4 := getK_mem h2 h
      rw [if_neg (by omega)]
      exact h4
theorem rise_pair {L : List Ent} (h : Rise L) : (kv L).Pairwise fun a b => cmpB a.1 b.1 < 0 := by
  unfold kv; rw [List.pairwise_map]; exact h
/-- what Last answers, where there is one, and where there is none -/
def LaY (w : World) (k r : List UInt8) (kn rn : Nat) (e : Ending) (w' : World) : Prop := ∃ kA kc rA rc, e = .returned (.tuple #[.agg #[.slice kA kn kc, .slice rA rn rc], .bool true]) ∧ OwnB w' w.heap.size (.slice kA kn kc) k ∧ OwnB w' w.heap.size (.slice rA rn rc) r ∧ Below w.heap.size w w'
def LaN (w : World) (e : Ending) (w' : World) : Prop := e = .returned (.tuple #[.agg #[.slice none 0 0, .slice none 0 0], .bool false]) ∧ Below w.heap.size w w'
theorem last_y {w : World} {R : List (List UInt8 × List UInt8)} {k r : List UInt8} {kn rn : Nat} (hR : R.getLast? = some (k, r)) (hk : k.length = kn) (hr : r.length = rn) {f : Nat} {a : Array Value} (H : Calls Try.prog f a w (LastT w R)) : Calls Try.prog f a w (LaY w k r kn rn) := H.mono fun e w' ⟨hb, h⟩ => by
  subst hk hr
  rcases h with ⟨h0, _⟩ | ⟨e', h1, he, ho1, ho2⟩
  · rw [h0] at hR; cases hR
  · rw [hR] at h1
    injection h1 with h1
    injection h1 with h1 h2
    rw [← h1] at he ho1
    rw [← h2] at he ho2
    exact ⟨_, _, _, _, he, ho1, ho2, hb⟩
theorem last_n {w : World} {R : List (List UInt8 × List UInt8)} (hR : R = []) {f : Nat} {a : Array Value} (H : Calls Try.prog f a w (LastT w R)) : Calls Try.prog f a w (LaN w) := H.mono fun e w' ⟨hb, h⟩ => by
  rcases h with ⟨_, he⟩ | ⟨e', h1, _⟩
  · exact ⟨he, hb⟩
  · rw [hR] at h1; cases h1
end Go.Proofs.Ytfmhijaljlmgaaa
