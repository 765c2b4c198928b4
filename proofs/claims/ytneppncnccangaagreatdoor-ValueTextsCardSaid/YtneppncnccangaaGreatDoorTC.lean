/- The document's size and digits of a number. -/
import Derived.Test.YtneppncnccangaaGreatDoorE
import Derived.Test.YtneppncnccangaaGreatDoorR
namespace Go.Proofs.YtneppncnccangaaGreatDoor
open Go.RowKit

theorem ret_two {k : IntKind} {a b : Int} {v : Value} (h : a = b) : Ending.returned (.tuple #[.int k a, v]) = .returned (.tuple #[.int k b, v]) := by rw [h]
theorem refSize_any (n : Int) (hn : i64ok n) (w : World) : Calls Tryz.prog 36 #[.int .i64 n] w fun e w' => e = .returned (.tuple #[.int .u64 (n.natAbs : Int), .string ⟨(signL n).toArray⟩]) ∧ w = w' := by
  obtain ⟨h1, h2⟩ := hn
  by_cases h : n < 0
  · have HS : Hid ((⟨(signL n).toArray⟩ : ByteArray) = ⟨#[45]⟩) := Lib.hid (by unfold signL; rw [if_pos h])
    have HE : Hid (IntKind.u64.wrap (IntKind.u64.wrap (wrap64 (-(wrap64 (n + 1)))) + 1) = (n.natAbs : Int)) := Lib.hid (by simp only [IntKind.wrap_u64, wrap64]; omega)
    have HF : Hid (-(n + 1) + 1 = (n.natAbs : Int)) := Lib.hid (by omega)
    rw [HS.out]
    clear HS
    go_enter Tryz.func36, Tryz.ntmps36
    go_wp2
    go_ret2
    exact ⟨ret_two (by first | exact HE.out | exact HF.out), rfl⟩
  · have HS : Hid ((⟨(signL n).toArray⟩ : ByteArray) = ⟨#[]⟩) := Lib.hid (by unfold signL; rw [if_neg h])
    have HE : Hid (IntKind.u64.wrap n = (n.natAbs : Int)) := Lib.hid (by rw [IntKind.wrap_u64]; omega)
    have HF : Hid (n = (n.natAbs : Int)) := Lib.hid (by omega)
    rw [HS.out]
    clear HS
    go_enter Tryz.func36, Tryz.ntmps36
    go_wp2
    go_ret2
    exact ⟨ret_two (by first | exact HE.out | exact HF.out), rfl⟩
theorem dec_small {n : Nat} (h : n < 10) : Lib.decDigits n = [UInt8.ofNat (48 + n)] := by
  rw [Lib.decDigits]
  rw [dif_pos h]
theorem dec_big {n : Nat} (h : ¬ n < 10) : Lib.decDigits n = Lib.decDigits (n / 10) ++ [UInt8.ofNat (48 + n % 10)] := by
  rw [Lib.decDigits]
  rw [dif_neg h]
/-- so many digits at least -/
def padD (least u : Nat) : List UInt8 := List.replicate (least - (Lib.decDigits u).length) 48 ++ Lib.decDigits u
/-- the digits so far -/
def DInv (least u m : Nat) (l : List UInt8) : Prop := (0 < m ∧ Lib.decDigits u = Lib.decDigits m ++ l) ∨ (m = 0 ∧ 0 < u ∧ ∃ j, l = List.replicate j 48 ++ Lib.decDigits u ∧ (j = 0 ∨ l.length ≤ least)) ∨ (m = 0 ∧ u = 0 ∧ ∃ j, l = List.replicate j 48 ∧ j ≤ least)
theorem dinv_start (least u : Nat) : DInv least u u [] := by
  rcases Nat.eq_zero_or_pos u with h | h
  · exact .inr (.inr ⟨h, h, 0, rfl, Nat.zero_le _⟩)
  · exact .inl ⟨h, by simp⟩
theorem dinv_step {least u m : Nat} {l : List UInt8} (h : DInv least u m l) (hc : 0 < m ∨ l.length < least) : DInv least u (m / 10) (UInt8.ofNat (48 + m % 10) :: l) := by
  rcases h with ⟨h1, h2⟩ | ⟨rfl, h2, j, h3, h4⟩ | ⟨rfl, h2, j, h3, h4⟩
  · by_cases h3 : m < 10
    · rw [dec_small h3] at h2
      refine .inr (.inl ⟨by omega, ?_, 0, ?_, .inl rfl⟩)
      · rcases Nat.eq_zero_or_pos u with h4 | h4
        · subst h4
          have h5 := congrArg List.length h2
          rw [dec_small (by omega)] at h2
          simp only [List.cons_append, List.nil_append, List.cons.injEq] at h2
          have h6 := congrArg UInt8.toNat h2.1
          rw [fig_toNat 0 (by omega), fig_toNat m h3] at h6
          omega
        · exact h4
      · rw [h2, Nat.mod_eq_of_lt h3]; rfl
    · rw [dec_big h3] at h2
      exact .inl ⟨by omega, by rw [h2]; simp⟩
  · refine .inr (.inl ⟨rfl, h2, j + 1, by rw [h3]; rfl, .inr ?_⟩)
    rw [List.length_cons]; omega
  · refine .inr (.inr ⟨rfl, h2, j + 1, by rw [h3]; rfl, ?_⟩)
    have : l.length = j := by rw [h3]; simp
    omega
theorem dinv_end {least u m : Nat} {l : List UInt8} (h : DInv least u m l) (hm : m = 0) (hl : least ≤ l.length) (h1 : 1 ≤ least) : l = padD least u := by
  unfold padD
  rcases h with ⟨h2, _⟩ | ⟨_, h2, j, h3, h4⟩ | ⟨_, h2, j, h3, h4⟩
  · omega
  · have h5 : l.length = j + (Lib.decDigits u).length := by rw [h3]; simp
    have h6 : least - (Lib.decDigits u).length = j := by omega
    rw [h6]; exact h3
  · have h5 : l.length = j := by rw [h3]; simp
    subst h2
    rw [dec_small (by omega), h3, show j = (least - 1) + 1 by omega, List.replicate_succ']
    rfl
theorem digit_str (d : Nat) (h : d < 10) : ((⟨#[48, 49, 50, 51, 52, 53, 54, 55, 56, 57]⟩ : ByteArray).extract d (d + 1)).data.toList = [UInt8.ofNat (48 + d)] := by
  have : d = 0 ∨ d = 1 ∨ d = 2 ∨ d = 3 ∨ d = 4 ∨ d = 5 ∨ d = 6 ∨ d = 7 ∨ d = 8 ∨ d = 9 := by omega
  rcases this with rfl | rfl | rfl | rfl | rfl | rfl | rfl | rfl | rfl | rfl <;> rfl
/-- at the head of its loop -/
def DGL (least u : Nat) (v0 v5 : Value) : Prop := ∃ (m : Nat) (s : ByteArray), v0 = .int .u64 (m : Int) ∧ v5 = .string s ∧ m ≤ u ∧ DInv least u m s.data.toList
def natOf : Value → Nat
  | .int _ k => k.toNat
  | _ => 0
def sizeOf5 : Value → Nat
  | .string s => s.size
  | _ => 0
theorem dec_len : ∀ (k u : Nat), u < 10 ^ (k + 1) → (Lib.decDigits u).length ≤ k + 1
  | 0, u, h => by rw [dec_small (by simpa using h)]; simp
  | k + 1, u, h => by
    by_cases h10 : u < 10
    · rw [dec_small h10]; simp
    · rw [dec_big h10, List.length_append]
      have h2 : u / 10 < 10 ^ (k + 1) := by
        rw [Nat.pow_succ] at h
        omega
      have := dec_len k (u / 10) h2
      simp only [List.length_singleton]
      omega
theorem dec_20 {u : Nat} (hu : u < 18446744073709551616) : (Lib.decDigits u).length ≤ 20 := dec_len 19 u (by
  have : (10 : Nat) ^ (19 + 1) = 100000000000000000000 := by decide
  omega)
theorem dinv_size {least u m : Nat} {l : List UInt8} (hu : u < 18446744073709551616) (h4 : least ≤ 4) (h : DInv least u m l) : l.length ≤ 20 := by
  have h20 := dec_20 hu
  rcases h with ⟨_, h2⟩ | ⟨_, _, j, h3, h5⟩ | ⟨_, _, j, h3, h5⟩
  · have := congrArg List.length h2
    rw [List.length_append] at this
    omega
  · rcases h5 with h5 | h5
    · subst h5
      rw [h3]
      simpa using h20
    · omega
  · rw [h3, List.length_replicate]; omega
set_option maxRecDepth 100000 in
set_option maxHeartbeats 8000000 in
theorem refDigits_any (u least : Nat) (hu : u < 18446744073709551616) (h1 : 1 ≤ least) (h4 : least ≤ 4) (w : World) : Calls Tryz.prog 37 #[.int .u64 (u : Int), .int .i64 (least : Int)] w fun e w' => (∃ s : ByteArray, e = .returned (.string s) ∧ s.data.toList = padD least u) ∧ w = w' := by
  have HS : Hid (DGL least u (.int .u64 (u : Int)) (.string ⟨#[]⟩)) := Lib.hid ⟨u, ⟨#[]⟩, rfl, rfl, Nat.le_refl _, dinv_start least u⟩
  have HU := Lib.hid hu
  have HL := Lib.hid (And.intro h1 h4)
  clear hu
  go_enter Tryz.func37, Tryz.ntmps37
  go_wp2_with fail
  go_loop [0, 5] (fun v0 v5 => DGL least u v0 v5) (fun v0 v5 => natOf v0 + (least - sizeOf5 v5))
  case atStart => exact HS.out
  case round =>
    obtain ⟨m, s, rfl, rfl, hm, hinv⟩ := hrel
    have HI := Lib.hid hinv
    have hm64 : (m : Int) < 18446744073709551616 := by have := HU.out; omega
    have HN : Hid (∀ (v0 v5 : Value) (t : ByteArray), v0 = .int .u64 ((m / 10 : Nat) : Int) → v5 = .string t → t.data.toList = UInt8.ofNat (48 + m % 10) :: s.data.toList → (0 < m ∨ s.size < least) → DGL least u v0 v5) := Lib.hid fun v0 v5 t e0 e5 et hc => ⟨m / 10, t, e0, e5, by omega, by rw [et]; exact dinv_step HI.out (by simpa using hc)⟩
    have hsz : s.size ≤ 20 := by have := dinv_size HU.out h4 hinv; simpa using this
    have hss : ¬ 9223372036854775807 < 1 + s.size := by omega
    by_cases h0 : 0 < m
    · have h0i : (0 : Int) < (m : Int) := by omega
      clear hinv hm
      go_wp2_with fail
      go_round
      case rel => exact HN.out _ _ _ (by go_num) rfl (by first | rw [ByteArray.data_append, Array.toList_append, digit_str _ (by omega)]; rfl | simp) (.inl h0)
      case measure => simp [natOf, sizeOf5]; omega
    · obtain rfl : m = 0 := by omega
      by_cases hl : s.size < least
      · have hli : (s.size : Int) < (least : Int) := by omega
        clear hinv hm
        go_wp2_with fail
        go_round
        case rel => exact HN.out _ _ _ (by go_num) rfl (by first | rw [ByteArray.data_append, Array.toList_append, digit_str _ (by omega)]; rfl | simp) (.inr hl)
        case measure => simp [natOf, sizeOf5]; have h9 : (⟨#[48, 49, 50, 51, 52, 53, 54, 55, 56, 57]⟩ : ByteArray).size = 10 := rfl; rw [h9]; omega
      · have hli : ¬ (s.size : Int) < (least : Int) := by omega
        have HY : Hid (s.data.toList = padD least u) := Lib.hid (dinv_end hinv rfl (by simp; omega) h1)
        clear hinv hm
        go_wp2_with fail
        go_ret
        exact ⟨⟨_, rfl, HY.out⟩, rfl⟩
end Go.Proofs.YtneppncnccangaaGreatDoor
