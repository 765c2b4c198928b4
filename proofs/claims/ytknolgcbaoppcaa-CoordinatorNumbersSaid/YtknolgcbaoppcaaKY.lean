/- Bytes as strings. -/
import Derived.Test.YtknolgcbaoppcaaKW
namespace Go.Proofs.Ytknolgcbaoppcaa
open Go.RowKit

theorem conv_rd {w : World} {B n cap : Nat} {A : Option Addr} {l : List UInt8} (h : RdB w B A l) (hn : l.length = n) (s : ByteArray) (hs : s.data.toList = l) : (convert 56 9 (.slice A n cap)).run Try.prog w = .ok (.string s) w := by
  subst hn hs
  cases A with
  | none =>
    have : s.data.toList = [] := by
      rcases hl : s.data.toList with _ | ⟨y, t⟩
      · rfl
      · obtain ⟨_, e, _⟩ := h (by rw [hl]; simp); cases e
    have hs : s = ByteArray.empty := bytes_ext (by rw [this]; rfl)
    rw [run_convert_bytes_nil w _ _ Try.underlying56 Try.underlying5 _ _ _ Try.underlying9, hs]
  | some ad =>
    have hb := run_convert_bytes_back (P := Try.prog) w 56 9 5 ad cap s.data.toList Try.underlying56 Try.underlying5 Try.underlying9 (fun j hj => by
      obtain ⟨ad', e, _, hc⟩ := h (fun e => by rw [e] at hj; simp at hj)
      injection e with e
      subst e
      exact hc j _ (List.getElem?_eq_getElem hj))
    have e : (⟨s.data.toList.toArray⟩ : ByteArray) = s := bytes_ext (by simp)
    rw [e] at hb
    exact hb
theorem conv_ownS {w : World} {B : Nat} {v : Value} {l : List UInt8} (h : OwnB w B v l) (s : ByteArray) (hs : s.data.toList = l) : (convert 56 9 v).run Try.prog w = .ok (.string s) w := by
  have h1 := conv_own h
  have e : (⟨l.toArray⟩ : ByteArray) = s := bytes_ext (by rw [hs])
  rw [e] at h1
  exact h1
theorem right_all {l : List Val} (h : rightL l = true) (hok : AllOk l) : l.length ≤ 16 ∧ ∀ x ∈ l, x.R := by
  unfold rightL at h
  rw [Bool.and_eq_true, decide_eq_true_eq, List.all_eq_true] at h
  exact ⟨h.1, fun x hx => ⟨h.2 x hx, (hok x hx).1⟩⟩
theorem ba_of (l : List UInt8) : ∃ s : ByteArray, s.data.toList = l := ⟨⟨l.toArray⟩, by simp⟩
end Go.Proofs.Ytknolgcbaoppcaa
