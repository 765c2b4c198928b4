/- KeyBegins: words for its loop, and what its bytes say. -/
import Derived.Test.YtaokblhflhlhiaaKJ
import Derived.Test.YtaokblhflhlhiaaKO
namespace Go.Proofs.Ytaokblhflhlhiaa
open Go.RowKit

/-- the bytes of a key of one value or more have bytes behind them -/
theorem next_enc {a : List Val} (hR : ∀ x ∈ a, x.R) (hn : a ≠ []) : ∃ r, nextL (encL a) = some r := by
  cases h : nextL (encL a) with
  | some r => exact ⟨r, rfl⟩
  | none =>
    exfalso
    cases a with
    | nil => exact hn rfl
    | cons x a =>
      have h1 := (next_none _).1 h (UInt8.ofNat x.k.toNat) (by rw [encL_cons]; simp [enc1])
      have hk : 0 ≤ x.k ∧ x.k ≤ 5 := by rcases (hR x (by simp)).cases with g | g | g | g <;> omega
      have h2 := ofNat_toNat (q := x.k.toNat) (by omega)
      rw [h1] at h2
      have h3 : (255 : UInt8).toNat = 255 := rfl
      omega
/-- which keys lie from these bytes on up to the next ones -/
theorem begins_in {a o : List Val} (ha : ∀ x ∈ a, x.R) (ho : ∀ x ∈ o, x.R) {r : List UInt8} (hr : nextL (encL a) = some r) : (0 ≤ cmpB (encL o) (encL a) ∧ cmpB (encL o) r < 0) ↔ a <+: o := by
  rw [← encL_prefix ha ho, ← next_in]
  exact and_congr_right fun _ => ⟨fun h q hq => by rw [hr] at hq; injection hq with hq; rw [← hq]; exact h, fun h => h r hr⟩
/-- at the head of its loop: so far the other key begins so; or it does not -/
def BGL (l o : List Val) (n : Nat) (w : World) (v17 v18 : Value) (wr : World) : Prop := ∃ (k : Nat) (b : Bool), v18 = .int .i64 k ∧ v17 = .bool b ∧ k ≤ n ∧ Below w.heap.size w wr ∧ (b = true → n ≤ o.length ∧ o.take k = l.take k) ∧ (b = false → ¬ l.take n <+: o)
theorem BGL.start {l o : List Val} {n : Nat} {w : World} (b : Bool) (hb : b = decide (n ≤ o.length)) (hl : n ≤ l.length) : BGL l o n w (.bool b) (.int .i64 0) w := by
  refine ⟨0, b, rfl, rfl, Nat.zero_le _, Below.refl _ _, fun h => ⟨by rw [hb] at h; exact of_decide_eq_true h, by simp⟩, fun h hp => ?_⟩
  rw [hb] at h
  have h1 := of_decide_eq_false h
  have h2 := hp.length_le
  rw [List.length_take] at h2
  omega
theorem begins_step {l o : List Val} {n k : Nat} {x y : Val} (hk : k < n) (hx : o[k]? = some x) (hy : l[k]? = some y) (hno : n ≤ o.length) (h : o.take k = l.take k) :
    (x = y → n ≤ o.length ∧ o.take (k + 1) = l.take (k + 1)) ∧ (¬ x = y → ¬ l.take n <+: o) := by
  constructor
  · intro e
    exact ⟨hno, by rw [List.take_add_one, List.take_add_one, hx, hy, h, e]⟩
  · intro hne hp
    apply hne
    rw [List.prefix_iff_eq_take] at hp
    have h1 : (l.take n)[k]? = some y := by rw [List.getElem?_take, if_pos hk]; exact hy
    rw [hp, List.getElem?_take] at h1
    split at h1
    · rw [hx] at h1; injection h1
    · cases h1
theorem eqB_yes {x y : Val} (h : x = y) : eqB x.k x.n x.s y.k y.n y.s = true := by subst h; unfold eqB; simp
theorem eqB_no {x y : Val} (h : ¬ x = y) : eqB x.k x.n x.s y.k y.n y.s = false := by
  unfold eqB
  exact decide_eq_false fun ⟨a, b, c⟩ => h (Val.ext' a b c)
end Go.Proofs.Ytaokblhflhlhiaa
