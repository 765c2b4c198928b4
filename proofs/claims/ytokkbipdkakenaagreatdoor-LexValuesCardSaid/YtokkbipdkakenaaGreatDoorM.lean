/- Plain lists: quotes doubled, and halved again. -/
import Derived.Test.YtokkbipdkakenaaGreatDoorShelf
namespace Go.Proofs.YtokkbipdkakenaaGreatDoor

theorem repl_nil (old new : List UInt8) (ho : old ≠ []) : Lib.replaceAll [] old new = [] := by
  unfold Lib.replaceAll Lib.replace
  split
  · rfl
  · have h : Lib.index [] old = -1 := by unfold Lib.index; rw [if_neg (by cases old <;> simp_all)]
    rw [Lib.replaceNum, if_pos (Or.inl (by decide)), Lib.count_miss h]
    rfl
theorem repl_eq (l old new : List UInt8) (h : old ≠ new) : Lib.replaceAll l old new = Lib.replaceK old new (Lib.count l old) l := by
  unfold Lib.replaceAll Lib.replace
  rw [if_neg (by simpa using h), Lib.replaceNum, if_pos (Or.inl (by decide))]
theorem repl_hit (c : UInt8) (l old new : List UInt8) (ho : old ≠ []) (h : old ≠ new) (hp : old.isPrefixOf (c :: l) = true) : Lib.replaceAll (c :: l) old new = new ++ Lib.replaceAll ((c :: l).drop old.length) old new := by
  have hi : Lib.index (c :: l) old = ((0 : Nat) : Int) := by unfold Lib.index; rw [if_pos hp]; rfl
  rw [repl_eq _ _ _ h, repl_eq _ _ _ h, Lib.count_hit ho hi, Nat.add_comm, Lib.replaceK_hit _ _ _ _ 0 hi]
  simp
theorem repl_miss (c : UInt8) (l old new : List UInt8) (ho : old ≠ []) (h : old ≠ new) (hp : old.isPrefixOf (c :: l) = false) : Lib.replaceAll (c :: l) old new = c :: Lib.replaceAll l old new := by
  rw [repl_eq _ _ _ h, repl_eq _ _ _ h]
  by_cases hm : Lib.index l old = -1
  · have hi : Lib.index (c :: l) old = -1 := by
      unfold Lib.index
      rw [if_neg (by simp [hp]), if_pos (by simpa using hm)]
    rw [Lib.count_miss hm, Lib.count_miss hi]
    rfl
  · have hge := Lib.index_ge l old
    obtain ⟨i, hi0⟩ : ∃ i : Nat, Lib.index l old = i := ⟨(Lib.index l old).toNat, by omega⟩
    have hi : Lib.index (c :: l) old = ((i + 1 : Nat) : Int) := by
      unfold Lib.index
      rw [if_neg (by simp [hp]), if_neg (by simpa using hm), hi0]
      rfl
    rw [Lib.count_hit ho hi0, Lib.count_hit ho hi]
    have e : (c :: l).drop (i + 1 + old.length) = l.drop (i + old.length) := by
      rw [show i + 1 + old.length = (i + old.length) + 1 by omega, List.drop_succ_cons]
    rw [e, Nat.add_comm 1, Lib.replaceK_hit _ _ _ _ _ hi, Lib.replaceK_hit _ _ _ _ _ hi0, e]
    simp
/-- each quote twice -/
def dbl : List UInt8 → List UInt8
  | [] => []
  | c :: l => if c = 39 then 39 :: 39 :: dbl l else c :: dbl l
/-- two quotes are one -/
def half : List UInt8 → List UInt8
  | [] => []
  | [c] => [c]
  | c :: d :: l => if c = 39 ∧ d = 39 then 39 :: half l else c :: half (d :: l)
theorem repl_dbl : ∀ l : List UInt8, Lib.replaceAll l [39] [39, 39] = dbl l
  | [] => repl_nil _ _ (by simp)
  | c :: l => by
    by_cases h : c = 39
    · subst h
      rw [repl_hit 39 l [39] [39, 39] (by simp) (by simp) (by simp [List.isPrefixOf]), dbl, if_pos rfl, List.length_singleton, List.drop_succ_cons, List.drop_zero, repl_dbl l]
      rfl
    · rw [repl_miss c l [39] [39, 39] (by simp) (by simp) (by simp [List.isPrefixOf]; exact fun e => h e.symm), dbl, if_neg h, repl_dbl l]
theorem repl_half : ∀ l : List UInt8, Lib.replaceAll l [39, 39] [39] = half l
  | [] => repl_nil _ _ (by simp)
  | [c] => by
    rw [repl_miss c [] [39, 39] [39] (by simp) (by simp) (by simp [List.isPrefixOf]), repl_nil _ _ (by simp)]
    rfl
  | c :: d :: l => by
    by_cases h : c = 39 ∧ d = 39
    · obtain ⟨rfl, rfl⟩ := h
      rw [repl_hit 39 (39 :: l) [39, 39] [39] (by simp) (by simp) (by simp [List.isPrefixOf]), half, if_pos ⟨rfl, rfl⟩]
      show [39] ++ Lib.replaceAll l [39, 39] [39] = _
      rw [repl_half l]
      rfl
    · rw [repl_miss c (d :: l) [39, 39] [39] (by simp) (by simp) (by simp [List.isPrefixOf]; exact fun a b => h ⟨a.symm, b.symm⟩), half, if_neg h, repl_half (d :: l)]
theorem dbl_len : ∀ l : List UInt8, (dbl l).length ≤ 2 * l.length
  | [] => by simp [dbl]
  | c :: l => by
    have := dbl_len l
    unfold dbl
    split <;> simp <;> omega
theorem dbl_ge : ∀ l : List UInt8, l.length ≤ (dbl l).length
  | [] => by simp [dbl]
  | c :: l => by
    have := dbl_ge l
    unfold dbl
    split <;> simp <;> omega
theorem half_dbl : ∀ l : List UInt8, half (dbl l) = l
  | [] => rfl
  | c :: l => by
    by_cases h : c = 39
    · subst h
      rw [dbl, if_pos rfl, half, if_pos ⟨rfl, rfl⟩, half_dbl l]
    · rw [dbl, if_neg h]
      cases hd : dbl l with
      | nil =>
        have hz : l = [] := by
          have := dbl_ge l
          rw [hd] at this
          exact List.length_eq_zero_iff.1 (by simpa using this)
        rw [hz]; rfl
      | cons d r =>
        rw [half, if_neg (fun e => h e.1), ← hd, half_dbl l]
theorem dbl_none : ∀ l : List UInt8, (∀ c ∈ l, c ≠ 39) → dbl l = l
  | [], _ => rfl
  | c :: l, h => by
    rw [dbl, if_neg (h c (by simp)), dbl_none l fun d hd => h d (by simp [hd])]
end Go.Proofs.YtokkbipdkakenaaGreatDoor
