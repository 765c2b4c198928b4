/- Package table: Last: where it stands. -/
import Derived.Test.YtfmhijaljlmgaaaPX
namespace Go.Proofs.Ytfmhijaljlmgaaa
open Go.RowKit

theorem range_till {L : List Ent} {t : List UInt8} {m : Nat} (h : SplitB L t m) (ht : t ≠ []) : rangeL [] t L = L.take m := by
  have e1 : L = L.take m ++ L.drop m := (List.take_append_drop m L).symm
  have hte : t.isEmpty = false := by cases t with
    | nil => exact absurd rfl ht
    | cons a b => rfl
  have h0 : ∀ k : List UInt8, 0 ≤ cmpB k [] := fun k => by cases k <;> simp [cmpB]
  have h1 : rangeL [] t (L.take m) = L.take m := List.filter_eq_self.2 fun e he => by
    obtain ⟨j, hj⟩ := List.mem_iff_getElem?.1 he
    rw [List.getElem?_take] at hj
    split at hj
    · rename_i hjm
      have := h.lo j e hj hjm
      unfold inR
      rw [hte, decide_eq_true (h0 _), decide_eq_true this]; rfl
    · cases hj
  have h2 : rangeL [] t (L.drop m) = [] := range_none fun e he => by
    obtain ⟨j, hj⟩ := List.mem_iff_getElem?.1 he
    rw [List.getElem?_drop] at hj
    have := h.hi _ e hj (Nat.le_add_right _ _)
    unfold inR
    rw [hte, decide_eq_false (by omega : ¬ cmpB e.k t < 0)]
    simp
  have h3 := range_app [] t (L.take m) (L.drop m)
  rw [List.take_append_drop, h1, h2, List.append_nil] at h3
  exact h3
/-- the entry ahead of a place -/
theorem last_at {ps : List Pg} {i j : Nat} (hne : ∀ p ∈ ps, p.es ≠ []) (hi : i ≤ ps.length) (hj : ∀ p, ps[i]? = some p → j ≤ p.es.length) (hij : i = ps.length → j = 0) :
    (i = 0 ∧ j = 0) ∨ ∃ i' j' p e, (if j = 0 then i' + 1 = i ∧ j' + 1 = p.es.length else i' = i ∧ j' + 1 = j) ∧ ps[i']? = some p ∧ p.es[j']? = some e ∧ (flat ps)[(flat (ps.take i)).length + j - 1]? = some e := by
  rcases Nat.eq_zero_or_pos j with hj0 | hj0
  · subst hj0
    rcases Nat.eq_zero_or_pos i with h0 | h0
    · exact .inl ⟨h0, rfl⟩
    · obtain ⟨i', rfl⟩ : ∃ i', i = i' + 1 := ⟨i - 1, by omega⟩
      obtain ⟨p, hp⟩ : ∃ p, ps[i']? = some p := ⟨_, List.getElem?_eq_getElem (by omega)⟩
      have hpl := List.length_pos_iff.2 (hne p (List.mem_of_getElem? hp))
      obtain ⟨e, he⟩ : ∃ e, p.es[p.es.length - 1]? = some e := ⟨_, List.getElem?_eq_getElem (by omega)⟩
      refine .inr ⟨i', p.es.length - 1, p, e, ?_, hp, he, ?_⟩
      · rw [if_pos rfl]; exact ⟨rfl, by omega⟩
      · have e2 : flat (ps.take (i' + 1)) = flat (ps.take i') ++ p.es := by
          rw [List.take_add_one, hp, flat_app]; simp [flat]
        rw [e2, flat_at hp, List.length_append, List.getElem?_append_right (by omega), List.getElem?_append_left (by omega)]
        rw [show (flat (ps.take i')).length + p.es.length + 0 - 1 - (flat (ps.take i')).length = p.es.length - 1 by omega]
        exact he
  · have hil : i < ps.length := by
      rcases Nat.lt_or_ge i ps.length with h1 | h1
      · exact h1
      · have := hij (by omega); omega
    obtain ⟨p, hp⟩ : ∃ p, ps[i]? = some p := ⟨_, List.getElem?_eq_getElem hil⟩
    have hjl := hj p hp
    obtain ⟨e, he⟩ : ∃ e, p.es[j - 1]? = some e := ⟨_, List.getElem?_eq_getElem (by omega)⟩
    refine .inr ⟨i, j - 1, p, e, ?_, hp, he, ?_⟩
    · rw [if_neg (by omega)]; exact ⟨rfl, by omega⟩
    · rw [flat_at hp, List.getElem?_append_right (by omega), List.getElem?_append_left (by omega)]
      rw [show (flat (ps.take i)).length + j - 1 - (flat (ps.take i)).length = j - 1 by omega]
      exact he
end Go.Proofs.Ytfmhijaljlmgaaa
