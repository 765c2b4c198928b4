/- RowBack: words for its law. -/
import Derived.Test.YtpfelmkadejdcaaWR
import Derived.Test.YtpfelmkadejdcaaWF
import Derived.Test.YtpfelmkadejdcaaKQ
import Derived.Test.YtpfelmkadejdcaaKY
import Derived.Test.YtpfelmkadejdcaaKJA
namespace Go.Proofs.Ytpfelmkadejdcaa
open Go.RowKit

/-- Decode of a row's bytes -/
def DcTo (w : World) (m : List Val) (e : Ending) (w' : World) : Prop := ∃ v, e = .returned (.tuple #[v, .int .i64 0]) ∧ OwnV w' w.heap.size v m ∧ Below w.heap.size w w'
theorem decodeR_yes (bs : List UInt8) (m : List Val) (hm : ∀ x ∈ m, x.R) (h16 : m.length ≤ 16) (hb : bs = rowB m) (A : Option Addr) (n cap : Nat) (hn : n = bs.length) (w : World) (hcap : bs.length ≤ cap) (hr : RdB w w.heap.size A bs) :
    Calls Try.prog 21 #[.slice A n cap] w (DcTo w m) := by
  subst hn
  refine (decodeR_any bs A cap w hcap hr).mono fun e w' ⟨hbel, h⟩ => ?_
  rcases h with ⟨l, v, rfl, hR, hl16, he, ho⟩ | ⟨_, h⟩
  · obtain ⟨rfl, _⟩ := rowB_inj (u := []) (v := []) hR hm hl16 h16 (by rw [← he, hb])
    exact ⟨v, rfl, ho, hbel⟩
  · exact absurd hb (h m hm h16)
theorem decodeR_no (bs : List UInt8) (hno : ¬ ∃ m, (∀ x ∈ m, Val.R x) ∧ m.length ≤ 16 ∧ bs = rowB m) (A : Option Addr) (n cap : Nat) (hn : n = bs.length) (w : World) (hcap : bs.length ≤ cap) (hr : RdB w w.heap.size A bs) :
    Calls Try.prog 21 #[.slice A n cap] w (Ans (.tuple #[.slice none 0 0, .int .i64 51]) w) := by
  subst hn
  refine (decodeR_any bs A cap w hcap hr).mono fun e w' ⟨hbel, h⟩ => ?_
  rcases h with ⟨l, v, _, hR, h16, he, _⟩ | ⟨rfl, _⟩
  · exact absurd ⟨l, hR, h16, he⟩ hno
  · exact ⟨rfl, hbel⟩
theorem encodeR_no' (l : List Val) (A : Option Addr) (cap : Nat) (w : World) (hno : ¬ encOk l) (hok : AllOk l) (hr : RdV w w.heap.size A l) :
    Calls Try.prog 19 #[.slice A l.length cap] w (Ans (.tuple #[.slice none 0 0, .int .i64 51]) w) := by
  refine (encodeR_any l A cap w hok hr).mono fun e w' ⟨hb, h⟩ => ?_
  rcases h with ⟨h, _⟩ | ⟨_, he⟩
  · exact absurd h hno
  · exact ⟨he, hb⟩
theorem allok_R' {m : List Val} (h : ∀ x ∈ m, x.R) : AllOk m := fun x hx => ⟨(h x hx).2, by
  rcases (h x hx).cases with ⟨_, _, a⟩ | ⟨_, _, a⟩ | ⟨_, a, _⟩ | ⟨_, _, a⟩
  · rw [a]; decide
  · rw [a]; decide
  · rw [a]; decide
  · omega⟩
/-- no beginning of a row's bytes is a row -/
theorem row_cut {l : List Val} (hl : ∀ x ∈ l, x.R) (h16 : l.length ≤ 16) {i : Nat} (hi : i < (rowB l).length) : ¬ ∃ m, (∀ x ∈ m, Val.R x) ∧ m.length ≤ 16 ∧ (rowB l).take i = rowB m := by
  rintro ⟨m, hm, hm16, e⟩
  have h := List.take_append_drop i (rowB l)
  rw [e] at h
  obtain ⟨_, h2⟩ := rowB_inj (u := (rowB l).drop i) (v := []) hm hl hm16 h16 (by rw [List.append_nil]; exact h)
  have := congrArg List.length h2
  rw [List.length_drop, List.length_nil] at this
  omega
theorem row_more {l : List Val} (hl : ∀ x ∈ l, x.R) (h16 : l.length ≤ 16) {c : List UInt8} (hc : c ≠ []) : ¬ ∃ m, (∀ x ∈ m, Val.R x) ∧ m.length ≤ 16 ∧ rowB l ++ c = rowB m := by
  rintro ⟨m, hm, hm16, e⟩
  obtain ⟨_, h2⟩ := rowB_inj (u := c) (v := []) hl hm h16 hm16 (by rw [List.append_nil]; exact e)
  exact hc h2
theorem few_len {l : List Val} (h : fewB l = true) : l.length ≤ 20 := by
  unfold fewB at h
  simp only [Bool.and_eq_true, decide_eq_true_eq] at h
  exact h.1
/-- right, so far -/
def rightT (l : List Val) (k : Nat) : Bool := decide (l.length ≤ 16) && (l.take k).all rightB
theorem rightT_0 (l : List Val) : rightT l 0 = decide (l.length ≤ 16) := by simp [rightT]
theorem rightT_next {l : List Val} {k : Nat} {x : Val} (h : l[k]? = some x) : rightT l (k + 1) = (rightT l k && rightB x) := by
  unfold rightT
  rw [List.take_add_one, h, Option.toList_some, List.all_append, Bool.and_assoc]
  simp
theorem rightT_all (l : List Val) : rightT l l.length = true ↔ encOk l := by
  unfold rightT encOk
  rw [List.take_of_length_le (Nat.le_refl _), Bool.and_eq_true, decide_eq_true_iff, List.all_eq_true]
/-- at the head of its first loop -/
def RB1 (w : World) (l : List Val) (v14 v15 : Value) (wr : World) : Prop := ∃ (k : Nat) (q : Bool), v15 = .int .i64 k ∧ v14 = .bool q ∧ k ≤ l.length ∧ q = rightT l k ∧ Below w.heap.size w wr
/-- at the head of its second loop -/
def RB2 (w : World) (n : Nat) (v19 : Value) (wr : World) : Prop := ∃ k : Nat, v19 = .int .i64 k ∧ k ≤ n ∧ Below w.heap.size w wr
end Go.Proofs.Ytpfelmkadejdcaa
