/- Layer 8: the document's Same. -/
import Derived.Test.YtfmhijaljlmgaaaYH
namespace Go.Proofs.Ytfmhijaljlmgaaa
open Go.RowKit

theorem sB_inj {a b : List UInt8} : sB a = sB b ↔ a = b := by
  constructor
  · intro h
    have := congrArg (fun s : ByteArray => s.data.toList) h
    simpa [sB] using this
  · rintro rfl; rfl
theorem neqE (a b c d : ByteArray) (w : World) : (binOp .neq 34 (.agg #[.string a, .string b]) (.agg #[.string c, .string d])).run Try.prog w = .ok (.bool (!decide (a = c ∧ b = d))) w := by
  rw [run_neq_struct]
  by_cases h1 : a = c
  · by_cases h2 : b = d
    · subst h1 h2; simp; go_simp
    · subst h1
      have h4 : ¬ b.toList = d.toList := fun h => h2 ((bytes_inj b d).1 h)
      simp [h2]; go_simp
  · have h4 : ¬ a.toList = c.toList := fun h => h1 ((bytes_inj a c).1 h)
    simp [h1]; go_simp
def SmE (w : World) (l m : List (List UInt8 × List UInt8)) (v5 : Value) (wr : World) : Prop := ∃ i k : Nat, v5 = .int .i64 (i : Int) ∧ i ≤ l.length ∧ (∀ j, j < i → l[j]? = m[j]?) ∧ wr = w.drewN k
theorem RdS.at_ {w : World} {B : Nat} {A : Option Addr} {l : List (List UInt8 × List UInt8)} {i : Nat} {x : List UInt8 × List UInt8} (h : RdS w B A l) (hx : l[i]? = some x) : ∃ b o, A = some ⟨b, o, none⟩ ∧ w.cell? ⟨b, o + i * 2, none⟩ = some (.string (sB x.1)) ∧ w.cell? ⟨b, o + i * 2 + 1, none⟩ = some (.string (sB x.2)) := by
  obtain ⟨b, o, e, _, hc⟩ := h (fun e => by subst e; simp at hx)
  exact ⟨b, o, e, hc i x hx⟩
set_option maxRecDepth 100000 in
set_option maxHeartbeats 4000000 in
theorem sameE_any {w : World} {A0 A1 : Option Addr} {n0 n1 c0 c1 : Nat} {ns ms : List (List UInt8 × List UInt8)} (h0 : RdS w w.heap.size A0 ns) (h1 : RdS w w.heap.size A1 ms) (hn0 : ns.length = n0) (hn1 : ms.length = n1) (hs0 : n0 ≤ 1000000) (hs1 : n1 ≤ 1000000) :
    Calls Try.prog 14 #[.slice A0 n0 c0, .slice A1 n1 c1] w (LooksN (.bool (decide (ns = ms))) w) := by
  have H0 := Lib.hid h0
  have H1 := Lib.hid h1
  obtain ⟨r, hr⟩ : ∃ r, Hid (r = decide (ns = ms)) := ⟨_, Lib.hid rfl⟩
  rw [← hr.out]
  have hi0 : (n0 : Int) ≤ 1000000 := by omega
  have hi1 : (n1 : Int) ≤ 1000000 := by omega
  by_cases hl : n0 = n1
  · subst hl
    have HN0 := Lib.hid hn0
    have HN1 := Lib.hid hn1
    have HST : Hid (SmE w ns ms (.int .i64 0) w) := Lib.hid ⟨0, 0, rfl, Nat.zero_le _, fun j hj => absurd hj (Nat.not_lt_zero _), rfl⟩
    clear h0 h1 hn0 hn1
    go_enter Try.func14, Try.ntmps14
    go_wp2_with fail
    go_loopw [5] (fun v5 wr => SmE w ns ms v5 wr) (fun v5 _ => n0 - (intOf v5).toNat)
    case atStart => exact HST.out
    case round =>
      obtain ⟨i, k, rfl, hi, hlo, hw⟩ := hrel
      have HLO := Lib.hid hlo
      have HW := Lib.hid hw
      clear hlo hw
      rw [HN0.out] at hi
      by_cases hlt : i < n0
      · have hlti : (i : Int) < (n0 : Int) := by omega
        obtain ⟨x, hx⟩ : ∃ x, ms[i]? = some x := ⟨_, List.getElem?_eq_getElem (by rw [HN1.out]; exact hlt)⟩
        obtain ⟨y, hy⟩ : ∃ y, ns[i]? = some y := ⟨_, List.getElem?_eq_getElem (by rw [HN0.out]; exact hlt)⟩
        obtain ⟨b0, o0, hA0, d0, d1⟩ := H0.out.at_ hy
        obtain ⟨b1, o1, hA1, e0, e1⟩ := H1.out.at_ hx
        subst hA0 hA1
        have d0 : wr.cell? ⟨b0, o0 + i * 2, none⟩ = some (.string (sB y.1)) := by rw [← d0, HW.out]; rfl
        have d1 : wr.cell? ⟨b0, o0 + i * 2 + 1, none⟩ = some (.string (sB y.2)) := by rw [← d1, HW.out]; rfl
        have e0 : wr.cell? ⟨b1, o1 + i * 2, none⟩ = some (.string (sB x.1)) := by rw [← e0, HW.out]; rfl
        have e1 : wr.cell? ⟨b1, o1 + i * 2 + 1, none⟩ = some (.string (sB x.2)) := by rw [← e1, HW.out]; rfl
        have hi00 : 0 ≤ (i : Int) := by omega
        obtain ⟨s1, hs1⟩ : ∃ s, s = sB y.1 := ⟨_, rfl⟩
        obtain ⟨s2, hs2⟩ : ∃ s, s = sB y.2 := ⟨_, rfl⟩
        obtain ⟨t1, ht1⟩ : ∃ s, s = sB x.1 := ⟨_, rfl⟩
        obtain ⟨t2, ht2⟩ : ∃ s, s = sB x.2 := ⟨_, rfl⟩
        rw [← hs1] at d0
        rw [← hs2] at d1
        rw [← ht1] at e0
        rw [← ht2] at e1
        by_cases hxy : y = x
        · subst hxy
          obtain rfl : s1 = t1 := hs1.trans ht1.symm
          obtain rfl : s2 = t2 := hs2.trans ht2.symm
          have hne : ∀ W, (binOp .neq 34 (.agg #[.string s1, .string s2]) (.agg #[.string s1, .string s2])).run Try.prog W = .ok (.bool false) W := fun W => by rw [neqE]; simp
          have HY : Hid (∀ v5 k2, v5 = .int .i64 ((i + 1 : Nat) : Int) → SmE w ns ms v5 (wr.drewN k2)) := Lib.hid fun v5 k2 h5 => ⟨i + 1, k + k2, h5, by rw [HN0.out]; exact hlt, fun j hj => by
            rcases Nat.lt_or_ge j i with h | h
            · exact HLO.out j h
            · have : j = i := by omega
              subst this
              rw [hy, hx], by rw [HW.out, World.drewN_drewN]⟩
          clear hx hy hi hs1 hs2 ht1 ht2
          go_wp2_with fail
          go_quiet (fail)
          go_wp2_with fail
          go_roundw
          case rel => first | exact HY.out _ _ (by go_num) | ((repeat apply Exists.intro); exact ⟨HY.out _ _ (by go_num), rfl⟩)
          case measure => simp [intOf]; omega
        · have hne : ∀ W, (binOp .neq 34 (.agg #[.string s1, .string s2]) (.agg #[.string t1, .string t2])).run Try.prog W = .ok (.bool true) W := fun W => by
            rw [neqE, decide_eq_false]; rfl
            rintro ⟨g1, g2⟩
            rw [hs1, ht1, sB_inj] at g1
            rw [hs2, ht2, sB_inj] at g2
            exact hxy (Prod.ext g1 g2)
          have HY : Hid (r = false) := Lib.hid (hr.out.trans (decide_eq_false (fun e => by rw [e, hx] at hy; injection hy with hy; exact hxy hy.symm)))
          have HZ : Hid (∀ k2, ∃ j, wr.drewN k2 = w.drewN j) := Lib.hid fun k2 => ⟨k + k2, by rw [HW.out, World.drewN_drewN]⟩
          clear hx hy hi hs1 hs2 ht1 ht2
          go_wp2_with fail
          go_quiet (fail)
          go_wp2_with fail
          go_ret
          exact ⟨by rw [HY.out]; rfl, HZ.out _⟩
      · have hie : i = n0 := by omega
        subst hie
        have hlti : ¬ (i : Int) < (i : Int) := by omega
        have HY : Hid (r = true) := Lib.hid (hr.out.trans (decide_eq_true (List.ext_getElem? fun j => by
          rcases Nat.lt_or_ge j i with h | h
          · exact HLO.out j h
          · rw [List.getElem?_eq_none (by rw [HN0.out]; exact h), List.getElem?_eq_none (by rw [HN1.out]; exact h)])))
        clear hi
        go_wp2_with fail
        go_ret
        exact ⟨by rw [HY.out]; rfl, _, HW.out⟩
  · have hli : ¬ (n0 : Int) = (n1 : Int) := by omega
    have HY : Hid (r = false) := Lib.hid (hr.out.trans (decide_eq_false (fun e => hl (by rw [← hn0, ← hn1, e]))))
    clear h0 h1 hn0 hn1
    go_enter Try.func14, Try.ntmps14
    go_wp2_with fail
    go_ret
    exact ⟨by rw [HY.out]; rfl, 0, rfl⟩
end Go.Proofs.Ytfmhijaljlmgaaa
