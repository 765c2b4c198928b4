/- Package key: cutNumber. -/
import Derived.Test.YtjnjolhokcmmhaaKDA
import Derived.Test.YtjnjolhokcmmhaaKJA
import Derived.Laws.BitsAllLaws
namespace Go.Proofs.Ytjnjolhokcmmhaa
open Go.RowKit

theorem or_byte (n : Nat) (c : UInt8) (h : n < 72057594037927936) : bits BinOp.or IntKind.u64 (IntKind.u64.wrap ((n : Int) * 256)) (IntKind.u64.wrap (c.toNat : Int)) = ((n * 256 + c.toNat : Nat) : Int) := by
  have hc := c.toNat_lt
  have e1 : IntKind.u64.wrap ((n : Int) * 256) = ((n * 256 : Nat) : Int) := by rw [IntKind.wrap_u64]; omega
  have e2 : IntKind.u64.wrap (c.toNat : Int) = (c.toNat : Int) := by rw [IntKind.wrap_u64]; omega
  rw [e1, e2, u64_or_nat _ _ (by omega) (by omega)]
  have h2 := Nat.two_pow_add_eq_or_of_lt (i := 8) (b := c.toNat) (by omega) n
  have e3 : (2 : Nat) ^ 8 = 256 := by decide
  rw [e3, Nat.mul_comm] at h2
  rw [← h2]
/-- what cutNumber answers -/
def CNT (C : Nat) (w : World) (l : List UInt8) (m : Nat) (e : Ending) (w' : World) : Prop := Below w.heap.size w w' ∧ ((m ≤ l.length ∧ ∃ A' cap', e = .returned (.tuple #[.int .u64 (beVal (l.take m)), .slice A' (l.length - m) cap', .bool true]) ∧ RdB w' C A' (l.drop m) ∧ l.length - m ≤ cap') ∨
  (l.length < m ∧ e = .returned (.tuple #[.int .u64 0, .slice none 0 0, .bool false])))
/-- at the head of its loop -/
def CNL (l : List UInt8) (m : Nat) (v4 v17 : Value) : Prop := ∃ k : Nat, k ≤ m ∧ v17 = .int .i64 k ∧ v4 = .int .u64 (beVal (l.take k))
set_option maxRecDepth 100000 in
set_option maxHeartbeats 4000000 in
theorem cutNumber_long (l : List UInt8) (A : Option Addr) (cap m : Nat) (hm : m = 1 ∨ m = 8) (hml : m ≤ l.length) (hcap : l.length ≤ cap) (w : World) {C : Nat} (hC : C ≤ w.heap.size) (hr : RdB w C A l) :
    Calls Try.prog 51 #[.slice A l.length cap, .int .i64 m] w (CNT C w l m) := by
  have HR := Lib.hid hr
  have hmi : (m : Int) ≤ (l.length : Int) := by omega
  have hlt : ¬ (l.length : Int) < (m : Int) := by omega
  have hltd : decide (l.length < m) = false := decide_eq_false (by omega)
  have hmc : m ≤ cap := by omega
  have HS : Hid (CNL l m (.int .u64 0) (.int .i64 0)) := Lib.hid ⟨0, Nat.zero_le _, rfl, rfl⟩
  clear hr
  go_enter Try.func51, Try.ntmps51
  go_wp2_with fail
  go_loop [4, 17] (fun v4 v17 => CNL l m v4 v17) (fun _ v17 => m - (intOf v17).toNat)
  case atStart => exact HS.out
  case round =>
    obtain ⟨k, hk, rfl, rfl⟩ := hrel
    by_cases hkm : k < m
    · have hki : (k : Int) < (m : Int) := by omega
      obtain ⟨c, hc⟩ : ∃ c, l[k]? = some c := ⟨_, List.getElem?_eq_getElem (by omega)⟩
      obtain ⟨ad, hA, _, hcells⟩ := HR.out (fun e => by subst e; simp at hc)
      have hcell := hcells k c hc
      subst hA
      have HC := Lib.hid hc
      have hb7 : beVal (l.take k) < 72057594037927936 := by
        have h1 := beVal_lt (l.take k)
        have h2 : (l.take k).length ≤ 7 := by rw [List.length_take]; omega
        have h3 : 256 ^ (l.take k).length ≤ 256 ^ 7 := Nat.pow_le_pow_right (by omega) h2
        have h4 : (256 : Nat) ^ 7 = 72057594037927936 := by decide
        omega
      have HOR : Hid (bits BinOp.or IntKind.u64 (IntKind.u64.wrap ((beVal (l.take k) : Int) * 256)) (IntKind.u64.wrap (c.toNat : Int)) = (beVal (l.take (k + 1)) : Int)) := Lib.hid (by
        rw [or_byte _ _ hb7, List.take_add_one, HC.out, Option.toList_some, beVal_snoc])
      clear hc hb7
      go_wp2_with fail
      go_round
      case rel => exact ⟨k + 1, hkm, by go_num, by rw [HOR.out]⟩
      case measure => simp [intOf]; omega
    · have hke : k = m := by omega
      subst hke
      have hnlt : ¬ ((k : Int) < (k : Int)) := by omega
      have HD := HR.out.drop (k := k) hcap
      by_cases hcq : cap = k
      · have HY : Hid (∀ q, CNT C w l k (.returned (.tuple #[.int .u64 (beVal (l.take k)), .slice A 0 0, .bool true])) (w.drewN q)) := Lib.hid fun q => ⟨drewN_below w q, .inl ⟨hml, A, 0, by rw [show l.length - k = 0 by omega], by rw [if_pos hcq] at HD; exact HD.below (drewN_below w q) hC, by omega⟩⟩
        subst hcq
        clear HD hk hkm
        go_wp2_with fail
        go_quiet (fail)
        go_wp2_with fail
        go_ret3
        exact HY.out _
      · have HY : Hid (∀ q, CNT C w l k (.returned (.tuple #[.int .u64 (beVal (l.take k)), .slice (A.map (·.add k)) (l.length - k) (cap - k), .bool true])) (w.drewN q)) := Lib.hid fun q => ⟨drewN_below w q, .inl ⟨hml, _, cap - k, rfl, by rw [if_neg hcq] at HD; exact HD.below (drewN_below w q) hC, by omega⟩⟩
        clear HD hk hkm
        go_wp2_with fail
        go_quiet (fail)
        go_wp2_with fail
        go_ret3
        exact HY.out _
set_option maxRecDepth 100000 in
set_option maxHeartbeats 4000000 in
theorem cutNumber_any (l : List UInt8) (A : Option Addr) (cap m : Nat) (hm : m = 1 ∨ m = 8) (hcap : l.length ≤ cap) (w : World) {C : Nat} (hC : C ≤ w.heap.size) (hr : RdB w C A l) :
    Calls Try.prog 51 #[.slice A l.length cap, .int .i64 m] w (CNT C w l m) := by
  by_cases hml : m ≤ l.length
  · exact cutNumber_long l A cap m hm hml hcap w hC hr
  · have hlt : (l.length : Int) < (m : Int) := by omega
    have hltd : decide (l.length < m) = true := decide_eq_true (by omega)
    have HY : Hid (CNT C w l m (.returned (.tuple #[.int .u64 0, .slice none 0 0, .bool false])) w) := Lib.hid ⟨Below.refl _ _, .inr ⟨by omega, rfl⟩⟩
    clear hr hml hm hcap
    go_enter Try.func51, Try.ntmps51
    go_wp2_with fail
    go_ret3
    exact HY.out
end Go.Proofs.Ytjnjolhokcmmhaa
