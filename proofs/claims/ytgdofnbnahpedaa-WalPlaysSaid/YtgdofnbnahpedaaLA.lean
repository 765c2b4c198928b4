/- The frames at the beginning of any bytes, in plain mathematics. -/
import Derived.Test.YtgdofnbnahpedaaJH
namespace Go.Proofs.Ytgdofnbnahpedaa

theorem ofNat_self (a : UInt8) : UInt8.ofNat a.toNat = a := UInt8.toNat_inj.1 (by rw [ofNat_mod]; have := byte_lt a; omega)
theorem ofNat_eq {a : UInt8} {n : Nat} (h : n % 256 = a.toNat) : UInt8.ofNat n = a := UInt8.toNat_inj.1 (by rw [ofNat_mod, h])
/-- bytes that begin with a frame begin with a record's -/
theorem firstL_some {l : List UInt8} (h : firstL l ≠ 0) : ∃ r t, l = frameL r ++ t ∧ 1 ≤ r.length ∧ r.length ≤ 4096 := by
  by_cases h5 : l.length < 5
  · exact absurd (firstL_short h5) h
  · obtain ⟨m, a, b, c, d, t, rfl⟩ := five h5
    rw [firstL_five] at h
    by_cases hm : m = 76
    · rw [if_pos hm] at h
      by_cases hbig : 4096 < a.toNat * 256 + b.toNat + 1 ∨ t.length < a.toNat * 256 + b.toNat + 1
      · rw [if_pos hbig] at h; exact absurd rfl h
      · rw [if_neg hbig] at h
        by_cases hs : c.toNat * 256 + d.toNat = crcL (crcL 65535 [a, b]) (t.take (a.toNat * 256 + b.toNat + 1))
        · have ha := byte_lt a
          have hb := byte_lt b
          have hc := byte_lt c
          have hd := byte_lt d
          obtain ⟨n, hn⟩ : ∃ n, n = a.toNat * 256 + b.toNat + 1 := ⟨_, rfl⟩
          rw [← hn] at hbig hs
          have hl : (t.take n).length = n := by rw [List.length_take]; omega
          have h1 : hiB (t.take n) = a := by unfold hiB; rw [hl]; exact ofNat_eq (by omega)
          have h2 : loB (t.take n) = b := by unfold loB; rw [hl]; exact ofNat_eq (by omega)
          have h3 : sumR (t.take n) = c.toNat * 256 + d.toNat := by unfold sumR; rw [h1, h2]; exact hs.symm
          refine ⟨t.take n, t.drop n, ?_, by omega, by omega⟩
          have e : frameL (t.take n) = m :: a :: b :: c :: d :: t.take n := by
            unfold frameL
            rw [h1, h2, h3, hm]
            congr 3
            · rw [ofNat_eq (a := c) (by omega), ofNat_eq (a := d) (by omega)]
          rw [e]
          show _ = m :: a :: b :: c :: d :: (t.take n ++ t.drop n)
          rw [List.take_append_drop]
        · rw [if_neg hs] at h; exact absurd rfl h
    · rw [if_neg hm] at h; exact absurd rfl h
/-- any bytes: records, and what is no frame behind them -/
theorem frames_of (l : List UInt8) : ∃ rs t, l = bytesOf rs ++ t ∧ firstL t = 0 ∧ ∀ r ∈ rs, 1 ≤ r.length ∧ r.length ≤ 4096 := by
  have key : ∀ n, ∀ l : List UInt8, l.length ≤ n → ∃ rs t, l = bytesOf rs ++ t ∧ firstL t = 0 ∧ ∀ r ∈ rs, 1 ≤ r.length ∧ r.length ≤ 4096 := by
    intro n
    induction n with
    | zero => intro l hl; exact ⟨[], l, rfl, firstL_short (by omega), fun r hr => by cases hr⟩
    | succ n ih =>
      intro l hl
      by_cases h : firstL l = 0
      · exact ⟨[], l, rfl, h, fun r hr => by cases hr⟩
      · obtain ⟨r, t, rfl, h1, h2⟩ := firstL_some h
        rw [List.length_append, frameL_len] at hl
        obtain ⟨rs, t', h3, h4, h5⟩ := ih t (by omega)
        refine ⟨r :: rs, t', by rw [h3, bytesOf_cons, List.append_assoc], h4, fun x hx => ?_⟩
        rcases List.mem_cons.1 hx with rfl | hx
        · exact ⟨h1, h2⟩
        · exact h5 x hx
  exact key l.length l (Nat.le_refl _)
end Go.Proofs.Ytgdofnbnahpedaa
