/- The checksum of bytes, in plain mathematics: bit by bit, two ways; one byte that is another one makes it another one. -/
namespace Go.Proofs.Ytknolgcbaoppcaa

/-- a bit further -/
def crc1 (s : Nat) : Nat := (s * 2 % 65536) ^^^ (s / 32768 * 4129)
def crcN : Nat → Nat → Nat
  | 0, s => s
  | n + 1, s => crcN n (crc1 s)
def crcB (s : Nat) (b : UInt8) : Nat := crcN 8 (s ^^^ b.toNat * 256)
/-- the checksum of bytes behind others, whose checksum is s -/
def crcL (s : Nat) (l : List UInt8) : Nat := l.foldl crcB s
theorem xor16_lt {a b : Nat} (ha : a < 65536) (hb : b < 65536) : a ^^^ b < 65536 := Nat.xor_lt_two_pow (n := 16) ha hb
theorem crc1_lt {s : Nat} (h : s < 65536) : crc1 s < 65536 := xor16_lt (Nat.mod_lt _ (by omega)) (by omega)
theorem crcN_lt : ∀ (n : Nat) {s : Nat}, s < 65536 → crcN n s < 65536
  | 0, _, h => h
  | n + 1, _, h => crcN_lt n (crc1_lt h)
theorem byte_lt (b : UInt8) : b.toNat < 256 := b.toNat_lt
theorem crcB_lt {s : Nat} (h : s < 65536) (b : UInt8) : crcB s b < 65536 := crcN_lt 8 (xor16_lt h (by have := byte_lt b; omega))
theorem crcL_lt : ∀ (l : List UInt8) {s : Nat}, s < 65536 → crcL s l < 65536
  | [], _, h => h
  | b :: l, _, h => crcL_lt l (crcB_lt h b)
theorem crcL_app (s : Nat) (a b : List UInt8) : crcL s (a ++ b) = crcL (crcL s a) b := List.foldl_append
theorem crcL_cons (s : Nat) (a : UInt8) (l : List UInt8) : crcL s (a :: l) = crcL (crcB s a) l := rfl
theorem crcL_snoc (s : Nat) (l : List UInt8) (a : UInt8) : crcL s (l ++ [a]) = crcB (crcL s l) a := by rw [crcL_app]; rfl
theorem crcN_snoc : ∀ (n s : Nat), crcN (n + 1) s = crc1 (crcN n s)
  | 0, _ => rfl
  | n + 1, s => crcN_snoc n (crc1 s)
theorem xor_cancel {a b c : Nat} (h : a ^^^ c = b ^^^ c) : a = b := by
  have h2 := congrArg (· ^^^ c) h
  simp only [Nat.xor_assoc, Nat.xor_self, Nat.xor_zero] at h2
  exact h2
theorem crc1_par {s : Nat} (h : s < 65536) : crc1 s % 2 = s / 32768 := by
  have h1 := Nat.xor_mod_two_pow (a := s * 2 % 65536) (b := s / 32768 * 4129) (n := 1)
  unfold crc1
  rw [Nat.pow_one] at h1
  rw [h1, show s * 2 % 65536 % 2 = 0 by omega, Nat.zero_xor]
  omega
theorem crc1_inj {s t : Nat} (hs : s < 65536) (ht : t < 65536) (h : crc1 s = crc1 t) : s = t := by
  have h1 : s / 32768 = t / 32768 := by rw [← crc1_par hs, ← crc1_par ht, h]
  unfold crc1 at h
  rw [h1] at h
  have h2 := xor_cancel h
  omega
theorem crcN_inj : ∀ (n : Nat) {s t : Nat}, s < 65536 → t < 65536 → crcN n s = crcN n t → s = t
  | 0, _, _, _, _, h => h
  | n + 1, _, _, hs, ht, h => crc1_inj hs ht (crcN_inj n (crc1_lt hs) (crc1_lt ht) h)
theorem crcB_inj {s t : Nat} (hs : s < 65536) (ht : t < 65536) {b : UInt8} (h : crcB s b = crcB t b) : s = t :=
  xor_cancel (crcN_inj 8 (xor16_lt hs (by have := byte_lt b; omega)) (xor16_lt ht (by have := byte_lt b; omega)) h)
theorem crcB_inj2 {s : Nat} (hs : s < 65536) {b c : UInt8} (h : crcB s b = crcB s c) : b = c := by
  have h1 := crcN_inj 8 (xor16_lt hs (by have := byte_lt b; omega)) (xor16_lt hs (by have := byte_lt c; omega)) h
  rw [Nat.xor_comm s, Nat.xor_comm s] at h1
  have h2 := xor_cancel h1
  exact UInt8.toNat_inj.1 (by omega)
theorem crcL_inj : ∀ (l : List UInt8) {s t : Nat}, s < 65536 → t < 65536 → crcL s l = crcL t l → s = t
  | [], _, _, _, _, h => h
  | b :: l, _, _, hs, ht, h => crcB_inj hs ht (crcL_inj l (crcB_lt hs b) (crcB_lt ht b) h)
/-- one byte that is another one -/
theorem crcL_other {s : Nat} (hs : s < 65536) (l : List UInt8) (k : Nat) (hk : k < l.length) (c : UInt8) (hc : c ≠ l[k]) : crcL s (l.set k c) ≠ crcL s l := by
  intro h
  have e1 : l = l.take k ++ l[k] :: l.drop (k + 1) := by rw [List.getElem_cons_drop, List.take_append_drop]
  have e2 : l.set k c = l.take k ++ c :: l.drop (k + 1) := List.set_eq_take_append_cons_drop.trans (if_pos hk)
  rw [e2] at h
  have h2 : crcL s (l.take k ++ c :: l.drop (k + 1)) = crcL s (l.take k ++ l[k] :: l.drop (k + 1)) := h.trans (congrArg (crcL s) e1)
  rw [crcL_app, crcL_app, crcL_cons, crcL_cons] at h2
  have h3 := crcL_lt (l.take k) hs
  exact hc (crcB_inj2 h3 (crcL_inj _ (crcB_lt h3 _) (crcB_lt h3 _) h2))
/-- the document's step -/
def ref1 (c t : Nat) : Nat := if c / 32768 % 2 = t then c * 2 % 65536 else (c * 2 % 65536) ^^^ 4129
theorem ref1_lt (c t : Nat) : ref1 c t < 65536 := by
  unfold ref1
  split
  · omega
  · exact xor16_lt (Nat.mod_lt _ (by omega)) (by omega)
theorem dbl_xor (a b : Nat) : (a ^^^ b) * 2 % 65536 = (a * 2 % 65536) ^^^ (b * 2 % 65536) := by
  have h := Nat.shiftLeft_xor_distrib (a := a) (b := b) (i := 1)
  simp only [Nat.shiftLeft_eq, Nat.pow_one] at h
  rw [h]
  exact Nat.xor_mod_two_pow (n := 16)
theorem top_xor (a b : Nat) : (a ^^^ b) / 32768 = (a / 32768) ^^^ (b / 32768) := by
  have h := Nat.shiftRight_xor_distrib (a := a) (b := b) (i := 15)
  simp only [Nat.shiftRight_eq_div_pow] at h
  exact h
theorem crc1_ref {c d : Nat} (hc : c < 65536) (hd : d < 65536) : crc1 (c ^^^ d) = ref1 c (d / 32768) ^^^ (d * 2 % 65536) := by
  unfold crc1 ref1
  rw [dbl_xor, top_xor]
  have h1 : c / 32768 = 0 ∨ c / 32768 = 1 := by omega
  have h2 : d / 32768 = 0 ∨ d / 32768 = 1 := by omega
  have h3 : ∀ x y z : Nat, x ^^^ y ^^^ z = x ^^^ z ^^^ y := fun x y z => by rw [Nat.xor_assoc, Nat.xor_comm y, ← Nat.xor_assoc]
  rcases h1 with h1 | h1 <;> rcases h2 with h2 | h2 <;> rw [h1, h2]
  · simp
  · exact h3 _ _ _
  · exact h3 _ _ _
  · simp
/-- behind j bits of a byte -/
theorem ref_step {c b j : Nat} (hc : c < 65536) (hb : b < 256) (hj : j < 8) : crc1 (c ^^^ (b * 2 ^ (8 + j) % 65536)) = ref1 c (b / 2 ^ (7 - j) % 2) ^^^ (b * 2 ^ (8 + (j + 1)) % 65536) := by
  rw [crc1_ref hc (Nat.mod_lt _ (by omega))]
  have h1 : b * 2 ^ (8 + j) % 65536 / 32768 = b / 2 ^ (7 - j) % 2 := by
    match j, hj with
    | 0, _ => omega
    | 1, _ => omega
    | 2, _ => omega
    | 3, _ => omega
    | 4, _ => omega
    | 5, _ => omega
    | 6, _ => omega
    | 7, _ => omega
  have h2 : b * 2 ^ (8 + j) % 65536 * 2 % 65536 = b * 2 ^ (8 + (j + 1)) % 65536 := by
    rw [show 8 + (j + 1) = 8 + j + 1 from rfl, Nat.pow_succ, ← Nat.mul_assoc, Nat.mod_mul_mod]
  rw [h1, h2]
/-- the document's j bits of a byte -/
def refN (b : Nat) : Nat → Nat → Nat
  | 0, c => c
  | j + 1, c => ref1 (refN b j c) (b / 2 ^ (7 - j) % 2)
theorem refN_lt {b c : Nat} (hc : c < 65536) : ∀ j, refN b j c < 65536
  | 0 => hc
  | _ + 1 => ref1_lt _ _
theorem refN_crc {b c : Nat} (hc : c < 65536) (hb : b < 256) : ∀ j, j ≤ 8 → crcN j (c ^^^ b * 256) = refN b j c ^^^ (b * 2 ^ (8 + j) % 65536)
  | 0, _ => by show c ^^^ b * 256 = c ^^^ (b * 2 ^ 8 % 65536); rw [show b * 2 ^ 8 % 65536 = b * 256 by omega]
  | j + 1, h => by rw [crcN_snoc, refN_crc hc hb j (by omega), ref_step (refN_lt hc j) hb (by omega)]; rfl
theorem crcB_ref {s : Nat} (hs : s < 65536) (b : UInt8) : crcB s b = refN b.toNat 8 s := by
  unfold crcB
  rw [refN_crc hs (byte_lt b) 8 (by omega), show b.toNat * 2 ^ (8 + 8) % 65536 = 0 by omega, Nat.xor_zero]
end Go.Proofs.Ytknolgcbaoppcaa
