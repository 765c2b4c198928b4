/- Keys as bytes, in plain mathematics: digits, stuffed texts, what stands ahead of what, what begins what, the least bytes behind. -/
namespace Go.Proofs.Ytogogekmodbdiaa

theorem u8_ext {a b : UInt8} (h : a.toNat = b.toNat) : a = b := UInt8.toNat_inj.1 h
/-- the last m digits to the base 256, the greatest one ahead -/
def be : Nat → Nat → List UInt8
  | 0, _ => []
  | m + 1, u => UInt8.ofNat (u / 256 ^ m % 256) :: be m u
theorem ofNat_toNat {q : Nat} (h : q < 256) : (UInt8.ofNat q).toNat = q := UInt8.toNat_ofNat_of_lt' (by show q < 256; omega)
end Go.Proofs.Ytogogekmodbdiaa
