/- WalTail: the law's own body answers true. -/
import Derived.Test.YtgdofnbnahpedaaJQ
import Derived.Test.YtgdofnbnahpedaaJU
namespace Go.Proofs.Ytgdofnbnahpedaa
open Go.RowKit

theorem splitE_end (b : Nat) (R : List (List UInt8)) : SplitE (placesOf b R) ((b + (bytesOf R).length : Nat) : Int) R.length := by
  have h9 := splitE_all (pre := []) (b := b) R (fun x hx => by cases hx)
  rw [List.nil_append, List.length_nil, Nat.zero_add R.length] at h9
  exact h9
/-- the records among rows of bytes -/
def recsOf (l : List BRow) : List (List UInt8) := (l.map (·.l)).filter (fun r => decide (1 ≤ r.length ∧ r.length ≤ 300))
theorem recsOf_snoc {l : List BRow} {k : Nat} {x : BRow} (h : l[k]? = some x) : recsOf (l.take (k + 1)) = if 1 ≤ x.l.length ∧ x.l.length ≤ 300 then recsOf (l.take k) ++ [x.l] else recsOf (l.take k) := by
  have h1 := List.getElem?_eq_some_iff.1 h
  unfold recsOf
  rw [List.take_succ_eq_append_getElem h1.1, h1.2, List.map_append, List.filter_append]
  by_cases hc : 1 ≤ x.l.length ∧ x.l.length ≤ 300
  · rw [if_pos hc]
    simp [hc]
  · rw [if_neg hc]
    simp [hc]
theorem recsOf_ok (l : List BRow) : ∀ r ∈ recsOf l, 1 ≤ r.length ∧ r.length ≤ 300 := by
  intro r hr
  unfold recsOf at hr
  have := (List.mem_filter.1 hr).2
  simpa using this
theorem bytesOf_most {m : Nat} : ∀ {rs : List (List UInt8)}, (∀ r ∈ rs, r.length ≤ m) → (bytesOf rs).length ≤ rs.length * (m + 5)
  | [], _ => Nat.zero_le _
  | r :: rs, h => by
    rw [bytesOf_cons, List.length_append, frameL_len, List.length_cons, Nat.add_mul]
    have h1 := h r (by simp)
    have h2 := bytesOf_most (rs := rs) (fun x hx => h x (by simp [hx]))
    omega
theorem recsOf_len (l : List BRow) : (recsOf l).length ≤ l.length := by
  unfold recsOf
  exact Nat.le_trans (List.length_filter_le _ _) (by rw [List.length_map]; exact Nat.le_refl _)
theorem recsOf_bytes (l : List BRow) : (bytesOf (recsOf l)).length ≤ l.length * 305 := by
  have h1 := bytesOf_most (m := 300) (fun r hr => (recsOf_ok l r hr).2)
  have h2 := recsOf_len l
  exact Nat.le_trans h1 (Nat.mul_le_mul_right _ h2)
/-- at the head of the loop -/
def JtL (w : World) (q p : Nat) (rows : List BRow) (v10 : Value) (wr : World) : Prop := ∃ k g d : Nat, v10 = .int .i64 (k : Int) ∧ k ≤ rows.length ∧ Wl wr w.heap.size q p g d 0 0 [] (recsOf (rows.take k)) ∧ Below w.heap.size w wr
end Go.Proofs.Ytgdofnbnahpedaa
