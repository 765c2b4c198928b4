/- Package key: cutValue. -/
import Derived.Test.YtjnjolhokcmmhaaKDC
import Derived.Test.YtjnjolhokcmmhaaKH
namespace Go.Proofs.Ytjnjolhokcmmhaa
open Go.RowKit

/-- what cutValue answers -/
def CVT (C : Nat) (w : World) (l : List UInt8) (e : Ending) (w' : World) : Prop := Below w.heap.size w w' ∧ ∃ (x : Val) (A' : Option Addr) (n cap' : Nat) (ok : Bool), e = .returned (.tuple #[x.v, .slice A' n cap', .bool ok]) ∧
  ((ok = true ∧ x.R ∧ ∃ r, l = enc1 x ++ r ∧ n = r.length ∧ RdB w' C A' r ∧ r.length ≤ cap') ∨ (ok = false ∧ ∀ y r, y.R → l ≠ enc1 y ++ r))
theorem enc1_0 : enc1 ⟨0, 0, ⟨#[]⟩⟩ = [0] := by simp [enc1, bodyL]
theorem R_0 : Val.R ⟨0, 0, ⟨#[]⟩⟩ := ⟨by decide, ⟨by unfold i64ok; decide, by unfold i64ok; decide⟩⟩
theorem head_kind {c : UInt8} {t r : List UInt8} {y : Val} (hy : y.R) (h : c :: t = enc1 y ++ r) : y.k = (c.toNat : Int) ∧ t = bodyL y.k y.n y.s.data.toList ++ r := by
  unfold enc1 at h
  rw [List.cons_append, List.cons.injEq] at h
  obtain ⟨h1, h2⟩ := h
  refine ⟨?_, h2⟩
  have hk : 0 ≤ y.k ∧ y.k ≤ 5 := by rcases hy.cases with ⟨a, _⟩ | ⟨a, _⟩ | ⟨a, _⟩ | ⟨a, _⟩ <;> omega
  rw [h1, UInt8.toNat_ofNat']
  omega
theorem no_kind {c : UInt8} {t : List UInt8} (h : 5 < c.toNat) : ∀ y r, Val.R y → c :: t ≠ enc1 y ++ r := fun y r hy e => by
  have := (head_kind hy e).1
  rcases hy.cases with ⟨a, _⟩ | ⟨a, _⟩ | ⟨a, _⟩ | ⟨a, _⟩ <;> omega
theorem no_short1 : ∀ y r, Val.R y → [1] ≠ enc1 y ++ r := fun y r hy e => by
  obtain ⟨h1, h2⟩ := head_kind hy e
  have h1' : y.k = 1 := h1
  simp [bodyL, h1', be] at h2
theorem take_one (t : List UInt8) (h : 1 ≤ t.length) : ∃ d, t = d :: t.drop 1 ∧ beVal (t.take 1) = d.toNat := by
  match t, h with
  | d :: t, _ => exact ⟨d, rfl, by simp [beVal]⟩
theorem no_bool {d : UInt8} {t : List UInt8} (h : 1 < d.toNat) : ∀ y r, Val.R y → 1 :: d :: t ≠ enc1 y ++ r := fun y r hy e => by
  obtain ⟨h1, h2⟩ := head_kind hy e
  have h1' : y.k = 1 := h1
  rcases hy.cases with ⟨a, _⟩ | ⟨a, b, _⟩ | ⟨a, _⟩ | ⟨a, _⟩
  · omega
  · rcases b with b | b
    · rw [h1', b] at h2
      have h3 : (d :: t) = (0 : UInt8) :: r := h2
      simp only [List.cons.injEq] at h3
      rw [h3.1] at h
      exact absurd h (by decide)
    · rw [h1', b] at h2
      have h3 : (d :: t) = (1 : UInt8) :: r := h2
      simp only [List.cons.injEq] at h3
      rw [h3.1] at h
      exact absurd h (by decide)
  · omega
  · omega
theorem yes_bool {d : UInt8} (h : d.toNat ≤ 1) (t : List UInt8) : Val.R ⟨1, d.toNat, ⟨#[]⟩⟩ ∧ 1 :: d :: t = enc1 ⟨1, d.toNat, ⟨#[]⟩⟩ ++ t := by
  have : d = 0 ∨ d = 1 := by
    rcases Nat.lt_or_ge d.toNat 1 with h1 | h1
    · exact .inl (u8_ext (by have : (0 : UInt8).toNat = 0 := rfl; omega))
    · exact .inr (u8_ext (by have : (1 : UInt8).toNat = 1 := rfl; omega))
  rcases this with rfl | rfl
  · exact ⟨⟨by decide, ⟨by unfold i64ok; decide, by unfold i64ok; decide⟩⟩, rfl⟩
  · exact ⟨⟨by decide, ⟨by unfold i64ok; decide, by unfold i64ok; decide⟩⟩, rfl⟩
theorem no_short8 {c : UInt8} {t : List UInt8} (hc : c.toNat = 2 ∨ c.toNat = 3) (h : t.length < 8) : ∀ y r, Val.R y → c :: t ≠ enc1 y ++ r := fun y r hy e => by
  obtain ⟨h1, h2⟩ := head_kind hy e
  have hk : y.k = 2 ∨ y.k = 3 := by omega
  have hk1 : ¬ y.k = 1 := by omega
  unfold bodyL at h2
  rw [if_neg hk1, if_pos hk] at h2
  rw [h2, List.length_append, be_len] at h
  omega
theorem yes_num {c : UInt8} {t : List UInt8} (hc : c.toNat = 2 ∨ c.toNat = 3) (h : 8 ≤ t.length) : Val.R ⟨c.toNat, (beVal (t.take 8) : Int) - 9223372036854775808, ⟨#[]⟩⟩ ∧ c :: t = enc1 ⟨c.toNat, (beVal (t.take 8) : Int) - 9223372036854775808, ⟨#[]⟩⟩ ++ t.drop 8 := by
  have hl : (t.take 8).length = 8 := by rw [List.length_take]; omega
  have hv := beVal_lt (t.take 8)
  rw [hl, pow8] at hv
  have hb := be_val (t.take 8)
  rw [hl] at hb
  have hk : ((c.toNat : Nat) : Int) = 2 ∨ ((c.toNat : Nat) : Int) = 3 := by omega
  refine ⟨⟨?_, ⟨by unfold i64ok; constructor <;> simp only <;> omega, by unfold i64ok; constructor <;> simp only <;> omega⟩⟩, ?_⟩
  · unfold rightB
    rw [if_neg (by simp only; omega), if_pos (by simp only; omega)]
    rfl
  · unfold enc1 bodyL
    simp only
    rw [if_neg (by omega), if_pos hk]
    have ho : offN ((beVal (t.take 8) : Int) - 9223372036854775808) = beVal (t.take 8) := by unfold offN; omega
    rw [ho, hb, List.cons_append, List.take_append_drop]
    congr 1
    exact u8_ext (by simp)
theorem no_text {c : UInt8} {t : List UInt8} (hc : c.toNat = 4 ∨ c.toNat = 5) (h : ∀ s r, cutT t = some (s, r) → 200 < s.length) : ∀ y r, Val.R y → c :: t ≠ enc1 y ++ r := fun y r hy e => by
  obtain ⟨h1, h2⟩ := head_kind hy e
  unfold bodyL at h2
  rw [if_neg (by omega), if_neg (by omega), if_pos (by omega)] at h2
  have := h y.s.data.toList r ((cutT_iff _ _ _).2 (by rw [h2]; simp))
  rcases hy.cases with ⟨a, _⟩ | ⟨a, _⟩ | ⟨a, _⟩ | ⟨a, _, b⟩
  · omega
  · omega
  · omega
  · have e2 : y.s.data.toList.length = y.s.size := by simp
    omega
theorem yes_text {c : UInt8} {t s r : List UInt8} (hc : c.toNat = 4 ∨ c.toNat = 5) (h : cutT t = some (s, r)) (hs : s.length ≤ 200) : Val.R ⟨c.toNat, 0, ⟨s.toArray⟩⟩ ∧ c :: t = enc1 ⟨c.toNat, 0, ⟨s.toArray⟩⟩ ++ r := by
  refine ⟨⟨?_, ⟨by unfold i64ok; constructor <;> simp only <;> omega, by unfold i64ok; constructor <;> simp only <;> omega⟩⟩, ?_⟩
  · unfold rightB
    rw [if_neg (by simp only; omega), if_neg (by simp only; omega), if_pos (by simp only; omega)]
    have : (⟨s.toArray⟩ : ByteArray).size = s.length := by show s.toArray.size = s.length; simp
    simp [this, hs]
  · unfold enc1 bodyL
    simp only
    rw [if_neg (by omega), if_neg (by omega), if_pos (by omega), cutT_some h]
    simp only [List.cons_append, List.append_assoc, List.nil_append]
    congr 1
    exact u8_ext (by simp)
end Go.Proofs.Ytjnjolhokcmmhaa
