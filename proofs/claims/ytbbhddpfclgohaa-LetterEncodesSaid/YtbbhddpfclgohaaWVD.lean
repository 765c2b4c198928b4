/- The document's take, whole. -/
import Derived.Test.YtbbhddpfclgohaaWVB
import Derived.Test.YtbbhddpfclgohaaWVC
import Derived.Test.YtbbhddpfclgohaaWR
namespace Go.Proofs.Ytbbhddpfclgohaa
open Go.RowKit

theorem refTake_any (l : List UInt8) (A : Option Addr) (n cap : Nat) (hn : n = l.length) (w : World) (hcap : l.length ≤ cap) (hl : l.length ≤ 100000) (hr : RdB w w.heap.size A l) : Calls Try.prog 35 #[.slice A n cap] w (TkT w l) := by
  subst hn
  rcases l with _ | ⟨c, t⟩
  · exact tk_nil A cap w
  · obtain ⟨ad, rfl, hab, hcells⟩ := hr (by simp)
    have x0 := hcells 0 c rfl
    rw [Addr.add_zero'] at x0
    rw [List.length_cons] at hcap hl
    rw [List.length_cons]
    by_cases hc5 : 5 < c.toNat
    · exact tk_x c t ad cap w x0 hab hc5
    · have hdrop : ¬ cap = 1 → RdB w w.heap.size (some (ad.add 1)) t := fun h1 => by
        have h := hr.drop (k := 1) (cap := cap) (by rw [List.length_cons]; exact hcap)
        rw [if_neg h1] at h
        exact h
      have hone : cap = 1 → t = [] := fun h => List.length_eq_zero_iff.1 (by omega)
      have hnum : (∃ u r, u < 18446744073709551616 ∧ t = vL u ++ r) ∨ ∀ u r, u < 18446744073709551616 → t ≠ vL u ++ r := by
        by_cases h : ∃ u r, u < 18446744073709551616 ∧ t = vL u ++ r
        · exact .inl h
        · exact .inr fun u r hu e => h ⟨u, r, hu, e⟩
      rcases six' hc5 with rfl | rfl | rfl | rfl | rfl | rfl
      · exact tk_0 t ad cap w x0 hab
      · rcases t with _ | ⟨d, t⟩
        · exact tk_1n ad cap w x0 hab
        · exact tk_1c d t ad cap w x0 hab (hcells 1 d rfl)
      · by_cases h1 : cap = 1
        · have ht := hone h1
          subst ht
          subst h1
          exact tk_2o ad w x0 hab
        · rcases hnum with ⟨u, r, hu, ht⟩ | hno
          · exact tk_2y u r t ad cap w x0 hab hcap h1 hl (hdrop h1) ht hu
          · exact tk_2n t ad cap w x0 hab hcap h1 hl (hdrop h1) hno
      · by_cases h1 : cap = 1
        · have ht := hone h1
          subst ht
          subst h1
          exact tk_3o ad w x0 hab
        · rcases hnum with ⟨u, r, hu, ht⟩ | hno
          · exact tk_3y u r t ad cap w x0 hab hcap h1 hl (hdrop h1) ht hu
          · exact tk_3n t ad cap w x0 hab hcap h1 hl (hdrop h1) hno
      · by_cases h1 : cap = 1
        · have ht := hone h1
          subst ht
          subst h1
          exact tk_4o ad w x0 hab
        · rcases hnum with ⟨u, r, hu, ht⟩ | hno
          · by_cases hneg : zag u < 0
            · exact tk_4b u r t ad cap w x0 hab hcap h1 hl (hdrop h1) ht hu hneg
            · by_cases hbig : (r.length : Int) < zag u
              · exact tk_4c u r t ad cap w x0 hab hcap h1 hl (hdrop h1) ht hu hbig
              · obtain ⟨kk, hkk⟩ : ∃ kk : Nat, zag u = (kk : Int) := ⟨(zag u).toNat, by omega⟩
                by_cases hc : cap = 1 + (vL u).length
                · exact tk_4ya u kk r t ad cap w x0 hab hcap h1 hl (hdrop h1) ht hu hkk (by omega) hc
                · exact tk_4yb u kk r t ad cap w x0 hab hcap h1 hl (hdrop h1) ht hu hkk (by omega) hc
          · exact tk_4n t ad cap w x0 hab hcap h1 hl (hdrop h1) hno
      · by_cases h1 : cap = 1
        · have ht := hone h1
          subst ht
          subst h1
          exact tk_5o ad w x0 hab
        · rcases hnum with ⟨u, r, hu, ht⟩ | hno
          · by_cases hneg : zag u < 0
            · exact tk_5b u r t ad cap w x0 hab hcap h1 hl (hdrop h1) ht hu hneg
            · by_cases hbig : (r.length : Int) < zag u
              · exact tk_5c u r t ad cap w x0 hab hcap h1 hl (hdrop h1) ht hu hbig
              · obtain ⟨kk, hkk⟩ : ∃ kk : Nat, zag u = (kk : Int) := ⟨(zag u).toNat, by omega⟩
                by_cases hc : cap = 1 + (vL u).length
                · exact tk_5ya u kk r t ad cap w x0 hab hcap h1 hl (hdrop h1) ht hu hkk (by omega) hc
                · exact tk_5yb u kk r t ad cap w x0 hab hcap h1 hl (hdrop h1) ht hu hkk (by omega) hc
          · exact tk_5n t ad cap w x0 hab hcap h1 hl (hdrop h1) hno
end Go.Proofs.Ytbbhddpfclgohaa
