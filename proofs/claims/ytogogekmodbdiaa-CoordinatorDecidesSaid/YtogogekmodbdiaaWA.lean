/- Numbers as short bytes, in plain mathematics: 7 bits a byte, the lowest ones ahead. -/
import Derived.Test.YtogogekmodbdiaaKA
namespace Go.Proofs.Ytogogekmodbdiaa

/-- the short one of a number that is not negative -/
def vL (u : Nat) : List UInt8 := if _h : u < 128 then [UInt8.ofNat u] else UInt8.ofNat (u % 128 + 128) :: vL (u / 128)
termination_by u
decreasing_by omega
theorem vL_lo {u : Nat} (h : u < 128) : vL u = [UInt8.ofNat u] := by rw [vL, dif_pos h]
theorem vL_hi {u : Nat} (h : ¬ u < 128) : vL u = UInt8.ofNat (u % 128 + 128) :: vL (u / 128) := by rw [vL, dif_neg h]
theorem vL_pos (u : Nat) : 1 ≤ (vL u).length := by
  by_cases h : u < 128
  · rw [vL_lo h]; simp
  · rw [vL_hi h]; simp
theorem vL_len (k u : Nat) (h : u < 128 ^ (k + 1)) : (vL u).length ≤ k + 1 := by
  induction k generalizing u with
  | zero => rw [vL_lo (by omega)]; simp
  | succ k ih =>
    by_cases hu : u < 128
    · rw [vL_lo hu]; simp
    · rw [vL_hi hu, List.length_cons]
      have := ih (u / 128) (by rw [Nat.pow_succ] at h; omega)
      omega
theorem vL_10 {u : Nat} (h : u < 18446744073709551616) : (vL u).length ≤ 10 := by
  refine vL_len 9 u ?_
  have : (128 : Nat) ^ (9 + 1) = 1180591620717411303424 := by decide
  omega
/-- the number of 7 bits a byte -/
def valV : List UInt8 → Nat
  | [] => 0
  | c :: l => c.toNat % 128 + 128 * valV l
theorem valV_snoc (l : List UInt8) (c : UInt8) : valV (l ++ [c]) = valV l + 128 ^ l.length * (c.toNat % 128) := by
  induction l with
  | nil => simp [valV]
  | cons a l ih =>
    simp only [List.cons_append, valV, ih, List.length_cons, Nat.pow_succ]
    rw [Nat.mul_add, ← Nat.mul_assoc, Nat.mul_comm 128 (128 ^ l.length)]
    omega
theorem valV_lt (l : List UInt8) : valV l < 128 ^ l.length := by
  induction l with
  | nil => simp [valV]
  | cons a l ih =>
    simp only [valV, List.length_cons, Nat.pow_succ]
    have := Nat.mod_lt a.toNat (y := 128) (by omega)
    omega
theorem valV_vL (u : Nat) : valV (vL u) = u := by
  induction u using Nat.strongRecOn with
  | ind u ih =>
    by_cases hu : u < 128
    · rw [vL_lo hu]
      simp only [valV]
      rw [ofNat_toNat (by omega)]
      omega
    · rw [vL_hi hu]
      simp only [valV]
      rw [ih (u / 128) (by omega), ofNat_toNat (by omega)]
      omega
/-- bytes that are not the last ones -/
def Mor (p : List UInt8) : Prop := ∀ x ∈ p, 128 ≤ x.toNat
theorem Mor.nil : Mor [] := fun x hx => by simp at hx
theorem Mor.snoc {p : List UInt8} {c : UInt8} (h : Mor p) (hc : 128 ≤ c.toNat) : Mor (p ++ [c]) := fun x hx => by
  rw [List.mem_append, List.mem_singleton] at hx
  rcases hx with hx | hx
  · exact h x hx
  · rw [hx]; exact hc
theorem Mor.tail {a : UInt8} {p : List UInt8} (h : Mor (a :: p)) : Mor p := fun x hx => h x (by simp [hx])
theorem valV_one {p : List UInt8} {c : UInt8} (hc : c.toNat < 128) (h0 : c.toNat ≠ 0) : 1 ≤ valV (p ++ [c]) := by
  rw [valV_snoc, Nat.mod_eq_of_lt hc]
  have : 1 ≤ 128 ^ p.length * c.toNat := Nat.mul_pos (Nat.pow_pos (by omega)) (by omega)
  omega
/-- the bytes up to the first low one, when it isn't 0 or stands alone, are a short one -/
theorem vL_val {p : List UInt8} {c : UInt8} (hp : Mor p) (hc : c.toNat < 128) (h0 : c.toNat ≠ 0 ∨ p = []) : vL (valV (p ++ [c])) = p ++ [c] := by
  induction p with
  | nil =>
    have e : valV ([] ++ [c]) = c.toNat := by simp only [List.nil_append, valV]; omega
    rw [e, vL_lo hc]
    simp
  | cons a p ih =>
    have hn : c.toNat ≠ 0 := by
      rcases h0 with h | h
      · exact h
      · cases h
    have h1 := valV_one (p := p) hc hn
    have ha := hp a (by simp)
    have ha2 := a.toNat_lt
    have e : valV (a :: p ++ [c]) = a.toNat % 128 + 128 * valV (p ++ [c]) := rfl
    rw [e, vL_hi (by omega)]
    have e1 : (a.toNat % 128 + 128 * valV (p ++ [c])) % 128 + 128 = a.toNat := by omega
    have e2 : (a.toNat % 128 + 128 * valV (p ++ [c])) / 128 = valV (p ++ [c]) := by omega
    rw [e1, e2, ih hp.tail (.inl hn)]
    simp
/-- a short one that bytes begin with ends at the first low byte -/
theorem vL_cut {p s r : List UInt8} {c : UInt8} {u : Nat} (hp : Mor p) (hc : c.toNat < 128) (h : p ++ c :: s = vL u ++ r) : vL u = p ++ [c] ∧ r = s := by
  induction p generalizing u with
  | nil =>
    by_cases hu : u < 128
    · rw [vL_lo hu] at h ⊢
      simp only [List.nil_append, List.cons_append, List.cons.injEq] at h ⊢
      exact ⟨⟨h.1.symm, trivial⟩, h.2.symm⟩
    · rw [vL_hi hu] at h
      simp only [List.nil_append, List.cons_append, List.cons.injEq] at h
      have := congrArg UInt8.toNat h.1
      rw [ofNat_toNat (by omega)] at this
      omega
  | cons a p ih =>
    have ha := hp a (by simp)
    by_cases hu : u < 128
    · rw [vL_lo hu] at h
      simp only [List.cons_append, List.cons.injEq, List.nil_append] at h
      have := congrArg UInt8.toNat h.1
      rw [ofNat_toNat (by omega)] at this
      omega
    · rw [vL_hi hu] at h ⊢
      simp only [List.cons_append, List.cons.injEq] at h ⊢
      obtain ⟨h1, h2⟩ := ih hp.tail h.2
      exact ⟨⟨h.1.symm, h1⟩, h2⟩
theorem vL_longer {p s r : List UInt8} {u : Nat} (hp : Mor p) (h : p ++ s = vL u ++ r) : p.length < (vL u).length := by
  induction p generalizing u with
  | nil => exact vL_pos u
  | cons a p ih =>
    have ha := hp a (by simp)
    by_cases hu : u < 128
    · rw [vL_lo hu] at h
      simp only [List.cons_append, List.cons.injEq, List.nil_append] at h
      have := congrArg UInt8.toNat h.1
      rw [ofNat_toNat (by omega)] at this
      omega
    · rw [vL_hi hu] at h ⊢
      simp only [List.cons_append, List.cons.injEq] at h
      have := ih hp.tail h.2
      simp only [List.length_cons]
      omega
theorem vL_inj {u v : Nat} {r s : List UInt8} (h : vL u ++ r = vL v ++ s) : u = v ∧ r = s := by
  induction u using Nat.strongRecOn generalizing v with
  | ind u ih =>
    by_cases hu : u < 128
    · by_cases hv : v < 128
      · rw [vL_lo hu, vL_lo hv] at h
        simp only [List.cons_append, List.cons.injEq, List.nil_append] at h
        have := congrArg UInt8.toNat h.1
        rw [ofNat_toNat (by omega), ofNat_toNat (by omega)] at this
        exact ⟨this, h.2⟩
      · rw [vL_lo hu, vL_hi hv] at h
        simp only [List.cons_append, List.cons.injEq, List.nil_append] at h
        have := congrArg UInt8.toNat h.1
        rw [ofNat_toNat (by omega), ofNat_toNat (by omega)] at this
        omega
    · by_cases hv : v < 128
      · rw [vL_hi hu, vL_lo hv] at h
        simp only [List.cons_append, List.cons.injEq, List.nil_append] at h
        have := congrArg UInt8.toNat h.1
        rw [ofNat_toNat (by omega), ofNat_toNat (by omega)] at this
        omega
      · rw [vL_hi hu, vL_hi hv] at h
        simp only [List.cons_append, List.cons.injEq] at h
        have h0 := congrArg UInt8.toNat h.1
        rw [ofNat_toNat (by omega), ofNat_toNat (by omega)] at h0
        obtain ⟨h1, h2⟩ := ih (u / 128) (by omega) h.2
        exact ⟨by omega, h2⟩
theorem vL_last {u : Nat} {p : List UInt8} {c : UInt8} (h : vL u = p ++ [c]) (hp : p ≠ []) : c.toNat ≠ 0 := by
  induction p generalizing u with
  | nil => exact absurd rfl hp
  | cons a p ih =>
    by_cases hu : u < 128
    · rw [vL_lo hu] at h
      have := congrArg List.length h
      simp at this
    · rw [vL_hi hu] at h
      simp only [List.cons_append, List.cons.injEq] at h
      by_cases h1 : p = []
      · subst h1
        by_cases hv : u / 128 < 128
        · rw [vL_lo hv] at h
          simp only [List.nil_append, List.cons.injEq, and_true] at h
          have h2 := congrArg UInt8.toNat h.2
          rw [ofNat_toNat (by omega)] at h2
          omega
        · rw [vL_hi hv] at h
          have h2 := congrArg List.length h.2
          have := vL_pos (u / 128 / 128)
          simp only [List.length_cons, List.nil_append, List.length_nil] at h2
          omega
      · exact ih h.2 h1
/-- bytes none of which ends a number -/
theorem vL_none {p r : List UInt8} {u : Nat} (hp : Mor p) : p ≠ vL u ++ r := fun h => by
  have := vL_longer (s := []) hp (by rw [List.append_nil]; exact h)
  have h2 := congrArg List.length h
  rw [List.length_append] at h2
  omega
theorem vL_zero {p s r : List UInt8} {c : UInt8} {u : Nat} (hp : Mor p) (hc : c.toNat = 0) (h0 : p ≠ []) : p ++ c :: s ≠ vL u ++ r := fun h => by
  obtain ⟨h1, _⟩ := vL_cut hp (by omega) h
  exact vL_last h1 h0 hc
theorem vL_long {p s r : List UInt8} {u : Nat} (hp : Mor p) (hl : 10 ≤ p.length) (hu : u < 18446744073709551616) : p ++ s ≠ vL u ++ r := fun h => by
  have h1 := vL_longer hp h
  have h2 := vL_10 hu
  omega
theorem vL_wide {p s r : List UInt8} {c : UInt8} {u : Nat} (hp : Mor p) (hl : p.length = 9) (hc : c.toNat < 128) (h1 : 1 < c.toNat) (hu : u < 18446744073709551616) : p ++ c :: s ≠ vL u ++ r := fun h => by
  obtain ⟨h2, _⟩ := vL_cut hp hc h
  have h3 := valV_vL u
  rw [h2, valV_snoc, hl, Nat.mod_eq_of_lt hc] at h3
  have : (128 : Nat) ^ 9 = 9223372036854775808 := by decide
  rw [this] at h3
  omega
theorem vL_fits {p : List UInt8} {c : UInt8} (hc : c.toNat < 128) (hl : p.length ≤ 9) (h : p.length = 9 → c.toNat ≤ 1) : valV (p ++ [c]) < 18446744073709551616 := by
  have h1 := valV_lt (p ++ [c])
  rw [List.length_append, List.length_singleton] at h1
  by_cases h9 : p.length = 9
  · have h2 := h h9
    have h3 := valV_lt p
    rw [valV_snoc, h9, Nat.mod_eq_of_lt hc]
    rw [h9] at h3
    have e : (128 : Nat) ^ 9 = 9223372036854775808 := by decide
    rw [e] at h3 ⊢
    have : c.toNat = 0 ∨ c.toNat = 1 := by omega
    rcases this with h4 | h4 <;> rw [h4] <;> omega
  · have h2 : (128 : Nat) ^ (p.length + 1) ≤ 128 ^ 9 := Nat.pow_le_pow_right (by omega) (by omega)
    have e : (128 : Nat) ^ 9 = 9223372036854775808 := by decide
    omega
/-- a number with its sign at the lowest bit -/
def zig (n : Int) : Nat := if 0 ≤ n then (2 * n).toNat else (-2 * n - 1).toNat
def zag (u : Nat) : Int := if u % 2 = 0 then ((u / 2 : Nat) : Int) else -((u / 2 : Nat) : Int) - 1
theorem zag_zig (n : Int) : zag (zig n) = n := by
  unfold zag zig
  by_cases h : 0 ≤ n
  · rw [if_pos h, if_pos (by omega)]; omega
  · rw [if_neg h, if_neg (by omega)]; omega
theorem zig_zag (u : Nat) : zig (zag u) = u := by
  unfold zag zig
  by_cases h : u % 2 = 0
  · rw [if_pos h, if_pos (by omega)]; omega
  · rw [if_neg h, if_neg (by omega)]; omega
theorem zig_lt {n : Int} (h : -9223372036854775808 ≤ n) (h2 : n ≤ 9223372036854775807) : zig n < 18446744073709551616 := by
  unfold zig; split <;> omega
theorem zag_ok {u : Nat} (h : u < 18446744073709551616) : -9223372036854775808 ≤ zag u ∧ zag u ≤ 9223372036854775807 := by
  unfold zag; split <;> omega
end Go.Proofs.Ytogogekmodbdiaa
