/- KeyBack: words for its law. -/
import Derived.Test.YtjnjolhokcmmhaaKDP
import Derived.Test.YtjnjolhokcmmhaaKQ
import Derived.Test.YtjnjolhokcmmhaaKY
import Derived.Test.YtjnjolhokcmmhaaKL
namespace Go.Proofs.Ytjnjolhokcmmhaa
open Go.RowKit

/-- Decode of a key's bytes -/
def DecTo (w : World) (m : List Val) (e : Ending) (w' : World) : Prop := ∃ v, e = .returned (.tuple #[v, .int .i64 0]) ∧ OwnV w' w.heap.size v m ∧ Below w.heap.size w w'
theorem encL_inj {a b : List Val} (ha : ∀ x ∈ a, x.R) (hb : ∀ x ∈ b, x.R) (h : encL a = encL b) : a = b := by
  obtain ⟨c, rfl, h2⟩ := encL_begins (u := []) ha hb (by rw [List.append_nil]; exact h)
  rcases c with _ | ⟨x, c⟩
  · simp
  · simp [encL, enc1] at h2
theorem decode_yes (bs : List UInt8) (m : List Val) (hm : ∀ x ∈ m, x.R) (h16 : m.length ≤ 16) (hb : bs = encL m) (A : Option Addr) (n cap : Nat) (hn : n = bs.length) (w : World) (hcap : bs.length ≤ cap) (hr : RdB w w.heap.size A bs) :
    Calls Try.prog 13 #[.slice A n cap] w (DecTo w m) := by
  subst hn
  have hl := encL_len hm
  refine (decode_any bs A cap w (by rw [hb]; omega) hcap hr).mono fun e w' ⟨hbel, h⟩ => ?_
  rcases h with ⟨l, v, rfl, hR, _, he, ho⟩ | ⟨_, h⟩
  · have : l = m := encL_inj hR hm (by rw [← he, hb])
    subst this
    exact ⟨v, rfl, ho, hbel⟩
  · exact absurd hb (h m hm h16)
theorem decode_no (bs : List UInt8) (hno : ¬ ∃ m, (∀ x ∈ m, Val.R x) ∧ m.length ≤ 16 ∧ bs = encL m) (A : Option Addr) (n cap : Nat) (hn : n = bs.length) (w : World) (hl : bs.length ≤ 100000) (hcap : bs.length ≤ cap) (hr : RdB w w.heap.size A bs) :
    Calls Try.prog 13 #[.slice A n cap] w (Ans (.tuple #[.slice none 0 0, .int .i64 41]) w) := by
  subst hn
  refine (decode_any bs A cap w hl hcap hr).mono fun e w' ⟨hbel, h⟩ => ?_
  rcases h with ⟨l, v, _, hR, h16, he, _⟩ | ⟨rfl, _⟩
  · exact absurd ⟨l, hR, h16, he⟩ hno
  · exact ⟨rfl, hbel⟩
/-- a byte less: no longer so many values -/
theorem less_vals {l m : List Val} (hl : ∀ x ∈ l, x.R) (hm : ∀ x ∈ m, x.R) (h0 : encL l ≠ []) (h : (encL l).take ((encL l).length - 1) = encL m) : m.length < l.length := by
  have e := List.take_append_drop ((encL l).length - 1) (encL l)
  rw [h] at e
  obtain ⟨c, rfl, h2⟩ := encL_begins hm hl e
  rcases c with _ | ⟨x, c⟩
  · have hp : 0 < (encL m).length := by
      rw [List.append_nil] at h0
      exact List.length_pos_iff.2 h0
    have := congrArg List.length h2
    have e0 : (encL ([] : List Val)).length = 0 := rfl
    rw [List.length_drop, List.append_nil, e0] at this
    omega
  · rw [List.length_append, List.length_cons]; omega
/-- a byte more: more values -/
theorem more_vals {l m : List Val} (hl : ∀ x ∈ l, x.R) (hm : ∀ x ∈ m, x.R) {c : UInt8} (h : encL l ++ [c] = encL m) : l.length < m.length := by
  obtain ⟨k, rfl, h2⟩ := encL_begins hl hm h
  rcases k with _ | ⟨x, k⟩
  · simp [encL] at h2
  · rw [List.length_append, List.length_cons]; omega
theorem RdV.same {w : World} {B : Nat} {l : List Val} {v : Value} (h : OwnV w B v l) : ∃ A cap, v = .slice A l.length cap ∧ RdV w w.heap.size A l ∧ l.length ≤ cap := by
  obtain ⟨A, cap, rfl, hc⟩ := h.2
  exact ⟨A, cap, rfl, h.rd, hc⟩
theorem allok_R {m : List Val} (h : ∀ x ∈ m, x.R) : AllOk m := fun x hx => ⟨(h x hx).2, by
  rcases (h x hx).cases with ⟨_, _, a⟩ | ⟨_, _, a⟩ | ⟨_, a, _⟩ | ⟨_, _, a⟩
  · rw [a]; decide
  · rw [a]; decide
  · rw [a]; decide
  · omega⟩
end Go.Proofs.Ytjnjolhokcmmhaa
