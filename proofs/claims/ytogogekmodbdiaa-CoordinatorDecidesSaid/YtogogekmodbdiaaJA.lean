/- The checksum of bytes, in plain mathematics: bit by bit, two ways; one byte that is another one makes it another one. -/
namespace Go.Proofs.Ytogogekmodbdiaa

/-- a bit further -/
def crc1 (s : Nat) : Nat := (s * 2 % 65536) ^^^ (s / 32768 * 4129)
def crcN : Nat → Nat → Nat
  | 0, s => s
  | n + 1, s => crcN n (crc1 s)
def crcB (s : Nat) (b : UInt8) : Nat := crcN 8 (s ^^^ b.toNat * 256)
/-- the checksum of bytes behind others, whose checksum is s -/
def crcL (s : Nat) (l : List UInt8) : Nat := l.foldl crcB s
theorem xor16_lt {a b : Nat} (ha : a < 65536) (hb : b < 65536) : a ^^^ b < 65536 := Nat.xor_lt_two_pow (n := 16) ha hb
theorem crc1_lt {s : Nat} (h : s < 65536) : crc1 s < 65536 := xor16_lt (Nat.mod_lt _ (by omega)) (by omega)
theorem crcN_lt : ∀ (n : Nat) {s : Nat}, s < 65536 → crcN n s < 65536
  | 0, _, h => h
  | n + 1, _, h => crcN_lt n (crc1_lt h)
theorem byte_lt (b : UInt8) : b.toNat < 256 := b.toNat_lt
theorem crcB_lt {s : Nat} (h : s < 65536) (b : UInt8) : crcB s b < 65536 := crcN_lt 8 (xor16_lt h (by have := byte_lt b; omega))
theorem crcL_lt : ∀ (l : List UInt8) {s : Nat}, s < 65536 → crcL s l < 65536
  | [], _, h => h
  | b :: l, _, h => crcL_lt l (crcB_lt h b)
theorem crcL_app (s : Nat) (a b : List UInt8) : crcL s (a ++ b) = crcL (crcL s a) b := List.foldl_append
theorem crcL_snoc (s : Nat) (l : List UInt8) (a : UInt8) : crcL s (l ++ [a]) = crcB (crcL s l) a := by rw [crcL_app]; rfl
theorem crcN_snoc : ∀ (n s : Nat), crcN (n + 1) s = crc1 (crcN n s)
  | 0, _ => rfl
  | n + 1, s => crcN_snoc n (crc1 s)
end Go.Proofs.Ytogogekmodbdiaa
