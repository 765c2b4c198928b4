/- Layer 4's law's own functions: few, right. -/
import Derived.Test.YtjnjolhokcmmhaaKI
namespace Go.Proofs.Ytjnjolhokcmmhaa
open Go.RowKit

set_option maxRecDepth 100000 in
set_option maxHeartbeats 2000000 in
theorem few_any (l : List Val) (A : Option Addr) (cap : Nat) (w : World) (hl : l.length ≤ maxLen) (hok : AllOk l) (hr : RdV w w.heap.size A l) :
    Calls Try.prog 9 #[.slice A l.length cap] w fun e w' => e = .returned (.bool (fewB l)) ∧ w = w' := by
  have HR := Lib.hid hr
  have HK := Lib.hid hok
  have HS : Hid (FWL l (.int .i64 0)) := Lib.hid ⟨0, rfl, Nat.zero_le _, by omega, fun x hx => by simp at hx⟩
  have hli : (l.length : Int) ≤ 9223372036854775807 := by unfold maxLen at hl; omega
  have HLI := Lib.hid hli
  have HLB : Hid (fewB l = (decide (l.length ≤ 20) && l.all fun x => decide (x.s.size ≤ 500))) := Lib.hid rfl
  generalize fewB l = res at HLB ⊢
  clear hr hok hli hl
  go_enter Try.func9, Try.ntmps9
  go_wp2_with fail
  go_loop [3] (fun v3 => FWL l v3) (fun v3 => l.length - (intOf v3).toNat)
  case atStart => exact HS.out
  case round =>
    obtain ⟨k, rfl, hk, hk20, hall⟩ := hrel
    have HA := Lib.hid hall
    clear hall
    by_cases hlt : k < l.length
    · have hki : (k : Int) < (l.length : Int) := by omega
      by_cases h20 : k = 20
      · subst h20
        have HE : Hid (res = false) := Lib.hid (by rw [HLB.out, decide_eq_false (by omega)]; rfl)
        clear hk hk20 hlt
        go_wp2_with fail
        go_ret
        exact ⟨(by rw [HE.out]; rfl), rfl⟩
      · obtain ⟨x, hx⟩ : ∃ x, l[k]? = some x := ⟨_, List.getElem?_eq_getElem hlt⟩
        have h20b : ((k : Int) == 20) = false := beq_false_of_ne (by omega)
        obtain ⟨b, o, hA, _, _, c2⟩ := HR.out.at_ hx (Below.refl _ w) (Nat.le_refl _)
        subst hA
        have hsz := (HK.out x (List.mem_of_getElem? hx)).2
        have HX := Lib.hid hx
        clear hx
        by_cases hs : x.s.size ≤ 500
        · have hsi : ¬ (500 : Int) < (x.s.size : Int) := by omega
          have HY : Hid (∀ v3, v3 = .int .i64 ((k + 1 : Nat) : Int) → FWL l v3) := Lib.hid fun v3 h3 => ⟨k + 1, h3, hlt, by omega, take_next HX.out HA.out hs⟩
          have hkm : (k : Int) + 1 ≤ 9223372036854775807 := by omega
          clear hs hsz hk hk20 h20
          go_wp2_with fail
          go_round
          case rel => exact HY.out _ (by go_num)
          case measure => clear hkm; simp [intOf]; omega
        · have hsi : (500 : Int) < (x.s.size : Int) := by omega
          have HE : Hid (res = false) := Lib.hid (by
            rw [HLB.out, Bool.and_eq_false_iff, List.all_eq_false]
            exact .inr ⟨x, List.mem_of_getElem? HX.out, by simpa using by omega⟩)
          clear hs hsz hk hk20 h20
          go_wp2_with fail
          go_ret
          exact ⟨(by rw [HE.out]; rfl), rfl⟩
    · have hkl : k = l.length := by omega
      subst hkl
      have HE : Hid (res = true) := Lib.hid (by
        rw [HLB.out, decide_eq_true hk20, Bool.true_and, List.all_eq_true]
        intro x hx
        have := HA.out x (by rw [List.take_of_length_le (Nat.le_refl _)]; exact hx)
        exact decide_eq_true this)
      have hnlt : ¬ ((l.length : Int) < (l.length : Int)) := by omega
      clear hlt hk hk20
      go_wp2_with fail
      go_ret
      exact ⟨(by rw [HE.out]; rfl), rfl⟩
/-- at the head of right's loop -/
def RTL (w : World) (l : List Val) (v3 : Value) (wr : World) : Prop := ∃ k : Nat, v3 = .int .i64 k ∧ k ≤ l.length ∧ Below w.heap.size w wr ∧ ∀ x ∈ l.take k, rightB x = true
end Go.Proofs.Ytjnjolhokcmmhaa
