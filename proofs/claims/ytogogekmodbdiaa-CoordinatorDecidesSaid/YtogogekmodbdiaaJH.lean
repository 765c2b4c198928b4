/- Records as they stand on a disk, one behind the other, and their places, in plain mathematics. -/
import Derived.Test.YtogogekmodbdiaaJX
import Derived.Test.YtogogekmodbdiaaJG
namespace Go.Proofs.Ytogogekmodbdiaa
open Go.RowKit

/-- records as they stand on a disk -/
def bytesOf (rs : List (List UInt8)) : List UInt8 := rs.flatMap frameL
theorem bytesOf_nil : bytesOf [] = [] := rfl
theorem bytesOf_cons (r : List UInt8) (rs : List (List UInt8)) : bytesOf (r :: rs) = frameL r ++ bytesOf rs := rfl
theorem bytesOf_app (a b : List (List UInt8)) : bytesOf (a ++ b) = bytesOf a ++ bytesOf b := List.flatMap_append
theorem bytesOf_one (r : List UInt8) : bytesOf [r] = frameL r := by rw [bytesOf_cons, bytesOf_nil, List.append_nil]
theorem bytesOf_len (rs : List (List UInt8)) : rs.length * 5 ≤ (bytesOf rs).length := by
  induction rs with
  | nil => exact Nat.le_refl _
  | cons r rs ih => rw [bytesOf_cons, List.length_append, frameL_len, List.length_cons]; omega
/-- where their frames begin and end -/
def placesOf : Nat → List (List UInt8) → List (Nat × Nat)
  | _, [] => []
  | b, r :: rs => (b, b + (r.length + 5)) :: placesOf (b + (r.length + 5)) rs
theorem placesOf_len (b : Nat) (rs : List (List UInt8)) : (placesOf b rs).length = rs.length := by
  induction rs generalizing b with
  | nil => rfl
  | cons r rs ih => simp only [placesOf, List.length_cons, ih]
/-- where the j-th begins -/
def startOf (b : Nat) (rs : List (List UInt8)) (j : Nat) : Nat := b + (bytesOf (rs.take j)).length
theorem placesOf_get (b : Nat) (rs : List (List UInt8)) (j : Nat) (x : Nat × Nat) (h : (placesOf b rs)[j]? = some x) : j < rs.length ∧ x = (startOf b rs j, startOf b rs (j + 1)) := by
  induction rs generalizing b j with
  | nil => simp [placesOf] at h
  | cons r rs ih => cases j with
    | zero =>
      simp only [placesOf, List.getElem?_cons_zero, Option.some.injEq] at h
      refine ⟨by simp, ?_⟩
      rw [← h]
      simp only [startOf, List.take_zero, bytesOf_nil, List.length_nil, Nat.add_zero, List.take_succ_cons, bytesOf_one, frameL_len]
    | succ j =>
      simp only [placesOf, List.getElem?_cons_succ] at h
      obtain ⟨h1, h2⟩ := ih _ j h
      refine ⟨by simp; exact h1, ?_⟩
      rw [h2]
      simp only [startOf, List.take_succ_cons, bytesOf_cons, List.length_append, frameL_len]
      congr 1 <;> omega
theorem placesOf_some (b : Nat) (rs : List (List UInt8)) {j : Nat} (h : j < rs.length) : (placesOf b rs)[j]? = some (startOf b rs j, startOf b rs (j + 1)) := by
  obtain ⟨x, hx⟩ : ∃ x, (placesOf b rs)[j]? = some x := ⟨_, List.getElem?_eq_getElem (by rw [placesOf_len]; exact h)⟩
  rw [hx, (placesOf_get b rs j x hx).2]
theorem startOf_le (b : Nat) (rs : List (List UInt8)) {i j : Nat} (h : i ≤ j) : startOf b rs i ≤ startOf b rs j := by
  have e : rs.take j = rs.take i ++ (rs.drop i).take (j - i) := by
    rw [← List.take_add]
    congr 1
    omega
  unfold startOf
  rw [e, bytesOf_app, List.length_append]
  omega
theorem startOf_zero (b : Nat) (rs : List (List UInt8)) : startOf b rs 0 = b := rfl
theorem startOf_end (b : Nat) (rs : List (List UInt8)) {j : Nat} (h : rs.length ≤ j) : startOf b rs j = b + (bytesOf rs).length := by
  unfold startOf
  rw [List.take_of_length_le h]
theorem startOf_succ (b : Nat) (rs : List (List UInt8)) {j : Nat} {r : List UInt8} (h : rs[j]? = some r) : startOf b rs (j + 1) = startOf b rs j + (r.length + 5) := by
  have h1 := List.getElem?_eq_some_iff.1 h
  unfold startOf
  rw [List.take_succ_eq_append_getElem h1.1, h1.2, bytesOf_app, List.length_append, bytesOf_one, frameL_len]
  omega
theorem startOf_lt (b : Nat) (rs : List (List UInt8)) {i j : Nat} (hj : j ≤ rs.length) (h : i < j) : startOf b rs i + 5 ≤ startOf b rs j := by
  obtain ⟨r, hr⟩ : ∃ r, rs[i]? = some r := ⟨_, List.getElem?_eq_getElem (by omega)⟩
  have h1 := startOf_succ b rs hr
  have h2 := startOf_le b rs (i := i + 1) (j := j) (by omega)
  omega
theorem placesOf_app (b : Nat) (xs cs : List (List UInt8)) : placesOf b (xs ++ cs) = placesOf b xs ++ placesOf (b + (bytesOf xs).length) cs := by
  induction xs generalizing b with
  | nil => rfl
  | cons r xs ih =>
    simp only [List.cons_append, placesOf, ih, bytesOf_cons, List.length_append, frameL_len]
    congr 3
    omega
/-- those that are gone, ahead of the others: which of all are below the first one that is there -/
theorem splitN_pre {b : Nat} {pre : List (Nat × Nat)} (rs : List (List UInt8)) (h : ∀ x ∈ pre, x.1 < b) : SplitN (pre ++ placesOf b rs) (b : Int) pre.length := by
  refine ⟨by rw [List.length_append]; omega, fun j x hx hj => ?_, fun j x hx hj => ?_⟩
  · rw [List.getElem?_append_left hj] at hx
    have := h x (List.mem_of_getElem? hx)
    omega
  · rw [List.getElem?_append_right hj] at hx
    have h2 := (placesOf_get b rs _ x hx).2
    have h3 := startOf_le b rs (Nat.zero_le (j - pre.length))
    rw [startOf_zero] at h3
    rw [h2]
    show (b : Int) ≤ ((startOf b rs (j - pre.length) : Nat) : Int)
    omega
theorem splitE_all {b : Nat} {pre : List (Nat × Nat)} (rs : List (List UInt8)) (h : ∀ x ∈ pre, x.2 ≤ b) : SplitE (pre ++ placesOf b rs) ((b + (bytesOf rs).length : Nat) : Int) (pre.length + rs.length) := by
  refine ⟨by rw [List.length_append, placesOf_len]; omega, fun j x hx _ => ?_, fun j x hx hj => ?_⟩
  · by_cases hj : j < pre.length
    · rw [List.getElem?_append_left hj] at hx
      have := h x (List.mem_of_getElem? hx)
      omega
    · rw [List.getElem?_append_right (by omega)] at hx
      obtain ⟨h1, h2⟩ := placesOf_get b rs _ x hx
      have h3 := startOf_le b rs (i := j - pre.length + 1) (j := rs.length) (by omega)
      rw [startOf_end b rs (Nat.le_refl _)] at h3
      rw [h2]
      show ((startOf b rs (j - pre.length + 1) : Nat) : Int) ≤ _
      omega
  · rw [List.getElem?_eq_none (by rw [List.length_append, placesOf_len]; omega)] at hx
    cases hx
/-- places as cells -/
def placeV : List (Nat × Nat) → List Value
  | [] => []
  | x :: l => .int .i64 (x.1 : Int) :: .int .i64 (x.2 : Int) :: placeV l
theorem placeV_app (a b : List (Nat × Nat)) : placeV (a ++ b) = placeV a ++ placeV b := by
  induction a with
  | nil => rfl
  | cons x a ih => simp only [List.cons_append, placeV, ih]
theorem placeV_drop (l : List (Nat × Nat)) (k : Nat) : (placeV l).drop (k * 2) = placeV (l.drop k) := by
  induction l generalizing k with
  | nil => simp [placeV]
  | cons x l ih => cases k with
    | zero => rfl
    | succ k =>
      rw [show (k + 1) * 2 = k * 2 + 1 + 1 by omega]
      simp only [placeV, List.drop_succ_cons, ih]
theorem placeV_get {l : List (Nat × Nat)} {i : Nat} {x : Nat × Nat} (h : l[i]? = some x) : (placeV l)[i * 2]? = some (.int .i64 (x.1 : Int)) ∧ (placeV l)[i * 2 + 1]? = some (.int .i64 (x.2 : Int)) := by
  induction l generalizing i with
  | nil => simp at h
  | cons y l ih => cases i with
    | zero => simp at h; subst h; exact ⟨rfl, rfl⟩
    | succ i =>
      simp only [List.getElem?_cons_succ] at h
      obtain ⟨a, b⟩ := ih h
      rw [show (i + 1) * 2 = i * 2 + 1 + 1 by omega]
      simp only [placeV, List.getElem?_cons_succ]
      exact ⟨a, b⟩
theorem RdC.places {w : World} {B : Nat} {A : Option Addr} {l : List (Nat × Nat)} (h : RdC w B A (placeV l)) : RdP w B A l := fun hn => by
  obtain ⟨b, o, e, hb, hc⟩ := h (by cases l with
    | nil => exact absurd rfl hn
    | cons x l => simp [placeV])
  refine ⟨b, o, e, hb, fun j x hj => ?_⟩
  obtain ⟨h1, h2⟩ := placeV_get hj
  exact ⟨hc _ _ h1, by rw [Nat.add_assoc]; exact hc _ _ h2⟩
end Go.Proofs.Ytogogekmodbdiaa
