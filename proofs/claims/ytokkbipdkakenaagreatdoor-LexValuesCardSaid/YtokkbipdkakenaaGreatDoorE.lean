/- Text answers the document's text, of every value. -/
import Derived.Test.YtokkbipdkakenaaGreatDoorD
namespace Go.Proofs.YtokkbipdkakenaaGreatDoor
open Go.RowKit

theorem right_cases {x : Val} (h : rightB x = true) : (x.k = 0 ∧ x.n = 0 ∧ x.s = ⟨#[]⟩) ∨ (x.k = 1 ∧ x.n = 0 ∧ x.s = ⟨#[]⟩) ∨ (x.k = 1 ∧ x.n = 1 ∧ x.s = ⟨#[]⟩) ∨ (x.k = 2 ∧ x.s = ⟨#[]⟩) ∨ (x.k = 3 ∧ x.s = ⟨#[]⟩) ∨
    (x.k = 4 ∧ x.n = 0 ∧ x.s.size ≤ 200) ∨ (x.k = 5 ∧ x.n = 0 ∧ x.s.size ≤ 200) := by
  unfold rightB isT eqB at h
  split at h
  · simp only [Bool.or_eq_true, decide_eq_true_eq] at h
    rcases h with (h | h) | h
    · exact .inl h
    · exact .inr (.inl h)
    · exact .inr (.inr (.inl h))
  · split at h
    · rename_i h2
      have h3 := of_decide_eq_true h
      rcases h2 with h2 | h2
      · exact .inr (.inr (.inr (.inl ⟨h2, h3⟩)))
      · exact .inr (.inr (.inr (.inr (.inl ⟨h2, h3⟩))))
    · split at h
      · rename_i h2
        have h3 := of_decide_eq_true h
        rcases h2 with h2 | h2
        · exact .inr (.inr (.inr (.inr (.inr (.inl ⟨h2, h3⟩)))))
        · exact .inr (.inr (.inr (.inr (.inr (.inr ⟨h2, h3⟩)))))
      · cases h
/-- V3 in bytes -/
def textS (x : Val) : ByteArray :=
  if rightB x = false then ⟨#[63]⟩
  else if x.k = 0 then ⟨#[110, 117, 108, 108]⟩
  else if x.k = 1 then (if x.n = 1 then ⟨#[116, 114, 117, 101]⟩ else ⟨#[102, 97, 108, 115, 101]⟩)
  else if x.k = 2 then ⟨(signL x.n).toArray⟩ ++ decS x.n.natAbs
  else if x.k = 3 then ⟨(signL x.n).toArray⟩ ++ decS (x.n.natAbs / 10000) ++ (⟨#[46]⟩ ++ pad4 (x.n.natAbs % 10000))
  else if x.k = 4 then ⟨#[39]⟩ ++ quotS x.s ++ ⟨#[39]⟩
  else ⟨#[120, 39]⟩ ++ hexS x.s ++ ⟨#[39]⟩
theorem text_any (x : Val) (hx : x.ok) (hl : x.s.size ≤ 9223372036854775807) (w : World) (hE : Env w) : Calls Tryz.prog 4 #[x.v] w (Ans (.string (textS x)) w) := by
  cases hr : rightB x
  · have e : textS x = ⟨#[63]⟩ := by unfold textS; rw [if_pos hr]
    rw [e]
    exact text_wrong x hl hr w
  · have hrn : ¬ rightB x = false := by rw [hr]; decide
    unfold textS
    rw [if_neg hrn]
    obtain ⟨k, n, s⟩ := x
    unfold Val.v
    simp only
    rcases right_cases hr with ⟨rfl, rfl, rfl⟩ | ⟨rfl, rfl, rfl⟩ | ⟨rfl, rfl, rfl⟩ | ⟨rfl, rfl⟩ | ⟨rfl, rfl⟩ | ⟨rfl, rfl, h200⟩ | ⟨rfl, rfl, h200⟩
    · exact text_null 0 ⟨#[]⟩ hr hx.2 (by decide) w hE
    · exact text_false w hE
    · exact text_true w hE
    · exact text_int n ⟨#[]⟩ hr hx.2 (by decide) w hE
    · exact text_dec n ⟨#[]⟩ hr hx.2 (by decide) w hE
    · exact text_text 0 s hr hx.2 (by have : s.size ≤ 200 := h200; omega) w hE
    · exact text_bytes 0 s hr hx.2 (by have : s.size ≤ 200 := h200; omega) w hE
end Go.Proofs.YtokkbipdkakenaaGreatDoor
