/- Package key: cutValue. -/
import Derived.Test.YtjnjolhokcmmhaaKDG
import Derived.Test.YtjnjolhokcmmhaaKDH
import Derived.Test.YtjnjolhokcmmhaaKDI
import Derived.Test.YtjnjolhokcmmhaaKDJ
import Derived.Test.YtjnjolhokcmmhaaKDK
import Derived.Test.YtjnjolhokcmmhaaKDL
import Derived.Test.YtjnjolhokcmmhaaKDN
namespace Go.Proofs.Ytjnjolhokcmmhaa
open Go.RowKit

theorem six {c : UInt8} (h : ¬ 5 < c.toNat) : c = 0 ∨ c = 1 ∨ c = 2 ∨ c = 3 ∨ c = 4 ∨ c = 5 := by
  have h1 : c.toNat = 0 ∨ c.toNat = 1 ∨ c.toNat = 2 ∨ c.toNat = 3 ∨ c.toNat = 4 ∨ c.toNat = 5 := by omega
  rcases h1 with h1 | h1 | h1 | h1 | h1 | h1
  · exact .inl (u8_ext h1)
  · exact .inr (.inl (u8_ext h1))
  · exact .inr (.inr (.inl (u8_ext h1)))
  · exact .inr (.inr (.inr (.inl (u8_ext h1))))
  · exact .inr (.inr (.inr (.inr (.inl (u8_ext h1)))))
  · exact .inr (.inr (.inr (.inr (.inr (u8_ext h1)))))
theorem cutValue_any (c : UInt8) (t : List UInt8) (A : Option Addr) (cap : Nat) (w : World) (hl : t.length + 1 ≤ 100000) (hcap : t.length + 1 ≤ cap) {C : Nat} (hC : C ≤ w.heap.size) (hr : RdB w C A (c :: t)) :
    Calls Try.prog 38 #[.slice A (t.length + 1) cap] w (CVT C w (c :: t)) := by
  obtain ⟨ad, rfl, hab0, hcells⟩ := hr (by simp)
  have hab : ad.block < w.heap.size := Nat.lt_of_lt_of_le hab0 hC
  have x0 := hcells 0 c rfl
  rw [Addr.add_zero'] at x0
  by_cases h1 : cap = 1
  · obtain rfl : t = [] := List.eq_nil_of_length_eq_zero (by omega)
    subst h1
    by_cases hc5 : 5 < c.toNat
    · exact cutValue_xn ad w c hc5 hab x0
    · rcases six hc5 with rfl | rfl | rfl | rfl | rfl | rfl
      · exact cutValue_0n ad w hab x0
      · exact cutValue_1n ad w hab x0
      · exact cutValue_2n ad w hab x0
      · exact cutValue_3n ad w hab x0
      · exact cutValue_4n ad w hab x0
      · exact cutValue_5n ad w hab x0
  · have hr1 := rest_at hr hcap h1
    by_cases hc5 : 5 < c.toNat
    · exact cutValue_xc t ad cap w c hc5 hab x0 hcap h1 hl hr1
    · rcases six hc5 with rfl | rfl | rfl | rfl | rfl | rfl
      · exact cutValue_0c t ad cap w hab x0 hcap h1 hl hC hr1
      · by_cases h2 : t.length < 1
        · exact cutValue_1s t ad cap w hab x0 hcap h1 hl hC hr1 h2
        · by_cases h3 : beVal (t.take 1) ≤ 1
          · exact cutValue_1y t ad cap w hab x0 hcap h1 hl hC hr1 (by omega) h3
          · exact cutValue_1b t ad cap w hab x0 hcap h1 hl hC hr1 (by omega) (by omega)
      · by_cases h2 : t.length < 8
        · exact cutValue_2s t ad cap w hab x0 hcap h1 hl hC hr1 h2
        · exact cutValue_2y t ad cap w hab x0 hcap h1 hl hC hr1 (by omega)
      · by_cases h2 : t.length < 8
        · exact cutValue_3s t ad cap w hab x0 hcap h1 hl hC hr1 h2
        · exact cutValue_3y t ad cap w hab x0 hcap h1 hl hC hr1 (by omega)
      · rcases hc : cutT t with _ | ⟨s, r⟩
        · exact cutValue_4s t ad cap w hab x0 hcap h1 hl hC hr1 hc
        · by_cases h3 : s.length ≤ 200
          · exact cutValue_4y t ad cap w hab x0 hcap h1 hl hC hr1 s r hc h3
          · exact cutValue_4b t ad cap w hab x0 hcap h1 hl hC hr1 s r hc (by omega)
      · rcases hc : cutT t with _ | ⟨s, r⟩
        · exact cutValue_5s t ad cap w hab x0 hcap h1 hl hC hr1 hc
        · by_cases h3 : s.length ≤ 200
          · exact cutValue_5y t ad cap w hab x0 hcap h1 hl hC hr1 s r hc h3
          · exact cutValue_5b t ad cap w hab x0 hcap h1 hl hC hr1 s r hc (by omega)
end Go.Proofs.Ytjnjolhokcmmhaa
