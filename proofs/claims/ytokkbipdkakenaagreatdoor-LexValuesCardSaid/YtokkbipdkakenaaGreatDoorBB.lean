/- Package lex: the kinds of bytes; how many bytes of a kind a text begins with. -/
import Derived.Test.YtokkbipdkakenaaGreatDoorBA
namespace Go.Proofs.YtokkbipdkakenaaGreatDoor
open Go.RowKit

set_option maxRecDepth 100000 in
theorem isBlank_any (c : UInt8) (w : World) : Calls Tryz.prog 20 #[.int .u8 (c.toNat : Int)] w fun e w' => e = .returned (.bool (blankB c)) ∧ w = w' := by
  obtain ⟨x, hx⟩ : ∃ x : Nat, x = c.toNat := ⟨_, rfl⟩
  have HB : blankB c = (x == 32 || x == 9 || x == 10 || x == 13) := by rw [hx]; rfl
  rw [HB, ← hx]
  clear HB hx
  by_cases h1 : x = 32
  · subst h1
    go_enter Tryz.func20, Tryz.ntmps20
    go_wp2_with fail
    go_ret
    exact ⟨rfl, rfl⟩
  · by_cases h2 : x = 9
    · subst h2
      go_enter Tryz.func20, Tryz.ntmps20
      go_wp2_with fail
      go_ret
      exact ⟨rfl, rfl⟩
    · by_cases h3 : x = 10
      · subst h3
        go_enter Tryz.func20, Tryz.ntmps20
        go_wp2_with fail
        go_ret
        exact ⟨rfl, rfl⟩
      · by_cases h4 : x = 13
        · subst h4
          go_enter Tryz.func20, Tryz.ntmps20
          go_wp2_with fail
          go_ret
          exact ⟨rfl, rfl⟩
        · have g1 : ((x : Int) == 32) = false := beq_false_of_ne (by omega)
          have g2 : ((x : Int) == 9) = false := beq_false_of_ne (by omega)
          have g3 : ((x : Int) == 10) = false := beq_false_of_ne (by omega)
          have g4 : ((x : Int) == 13) = false := beq_false_of_ne (by omega)
          have HE : Hid ((x == 32 || x == 9 || x == 10 || x == 13) = false) := Lib.hid (by simp [h1, h2, h3, h4])
          rw [HE.out]
          clear h1 h2 h3 h4
          go_enter Tryz.func20, Tryz.ntmps20
          go_wp2_with fail
          go_ret
          exact ⟨rfl, rfl⟩
set_option maxRecDepth 100000 in
theorem isDigit_any (c : UInt8) (w : World) : Calls Tryz.prog 31 #[.int .u8 (c.toNat : Int)] w fun e w' => e = .returned (.bool (digitB c)) ∧ w = w' := by
  obtain ⟨x, hx⟩ : ∃ x : Nat, x = c.toNat := ⟨_, rfl⟩
  have HB : digitB c = (decide (48 ≤ x) && decide (x ≤ 57)) := by rw [hx]; rfl
  rw [HB, ← hx]
  clear HB hx
  by_cases h1 : 48 ≤ x
  · have g1 : (48 : Int) ≤ (x : Int) := by omega
    by_cases h2 : x ≤ 57
    · have g2 : (x : Int) ≤ 57 := by omega
      have HE : Hid ((decide (48 ≤ x) && decide (x ≤ 57)) = true) := Lib.hid (by simp [h1, h2])
      rw [HE.out]
      clear h1 h2
      go_enter Tryz.func31, Tryz.ntmps31
      go_wp2_with fail
      go_ret
      exact ⟨rfl, rfl⟩
    · have g2 : ¬ (x : Int) ≤ 57 := by omega
      have HE : Hid ((decide (48 ≤ x) && decide (x ≤ 57)) = false) := Lib.hid (by simp [h2])
      rw [HE.out]
      clear h1 h2
      go_enter Tryz.func31, Tryz.ntmps31
      go_wp2_with fail
      go_ret
      exact ⟨rfl, rfl⟩
  · have g1 : ¬ (48 : Int) ≤ (x : Int) := by omega
    have HE : Hid ((decide (48 ≤ x) && decide (x ≤ 57)) = false) := Lib.hid (by simp [h1])
    rw [HE.out]
    clear h1
    go_enter Tryz.func31, Tryz.ntmps31
    go_wp2_with fail
    go_ret
    exact ⟨rfl, rfl⟩
theorem letter_low (c : UInt8) : letterB c = (decide (97 ≤ low c.toNat) && decide (low c.toNat ≤ 122)) := by
  have h : ∀ c : Fin 256, ((decide (65 ≤ c.val) && decide (c.val ≤ 90)) || (decide (97 ≤ c.val) && decide (c.val ≤ 122))) = (decide (97 ≤ low c.val) && decide (low c.val ≤ 122)) := by decide +kernel
  exact h ⟨c.toNat, c.toNat_lt⟩
set_option maxRecDepth 100000 in
theorem isLetter_any (c : UInt8) (w : World) : Calls Tryz.prog 29 #[.int .u8 (c.toNat : Int)] w fun e w' => e = .returned (.bool (letterB c)) ∧ w = w' := by
  obtain ⟨x, hx⟩ : ∃ x : Nat, x = c.toNat := ⟨_, rfl⟩
  obtain ⟨y, hy⟩ : ∃ y : Nat, y = low x := ⟨_, rfl⟩
  have hor : bits BinOp.or IntKind.u8 (x : Int) 32 = (y : Int) := by rw [hy]; exact or32 x (by rw [hx]; exact c.toNat_lt)
  have HB : letterB c = (decide (97 ≤ y) && decide (y ≤ 122)) := by rw [hy, hx]; exact letter_low c
  rw [HB, ← hx]
  clear HB hx hy
  by_cases h1 : 97 ≤ y
  · have g1 : (97 : Int) ≤ (y : Int) := by omega
    by_cases h2 : y ≤ 122
    · have g2 : (y : Int) ≤ 122 := by omega
      have HE : Hid ((decide (97 ≤ y) && decide (y ≤ 122)) = true) := Lib.hid (by simp [h1, h2])
      rw [HE.out]
      clear h1 h2
      go_enter Tryz.func29, Tryz.ntmps29
      go_wp2_with fail
      go_ret
      exact ⟨rfl, rfl⟩
    · have g2 : ¬ (y : Int) ≤ 122 := by omega
      have HE : Hid ((decide (97 ≤ y) && decide (y ≤ 122)) = false) := Lib.hid (by simp [h2])
      rw [HE.out]
      clear h1 h2
      go_enter Tryz.func29, Tryz.ntmps29
      go_wp2_with fail
      go_ret
      exact ⟨rfl, rfl⟩
  · have g1 : ¬ (97 : Int) ≤ (y : Int) := by omega
    have HE : Hid ((decide (97 ≤ y) && decide (y ≤ 122)) = false) := Lib.hid (by simp [h1])
    rw [HE.out]
    clear h1
    go_enter Tryz.func29, Tryz.ntmps29
    go_wp2_with fail
    go_ret
    exact ⟨rfl, rfl⟩
set_option maxRecDepth 100000 in
set_option maxHeartbeats 2000000 in
theorem inWord_any (c : UInt8) (w : World) : Calls Tryz.prog 54 #[.int .u8 (c.toNat : Int)] w fun e w' => e = .returned (.bool (wordB c)) ∧ w = w' := by
  have HL := Lib.hid (isLetter_any c w)
  have HD := Lib.hid (isDigit_any c w)
  obtain ⟨x, hx⟩ : ∃ x : Nat, x = c.toNat := ⟨_, rfl⟩
  have HB : wordB c = (letterB c || digitB c || x == 95) := by rw [hx]; rfl
  rw [HB]
  rw [← hx] at HL HD ⊢
  clear HB hx
  generalize letterB c = a at HL ⊢
  generalize digitB c = b at HD ⊢
  cases a with
  | true =>
    clear HD
    go_enter Tryz.func54, Tryz.ntmps54
    go_wp2_with (go_at_call 29; refine HL.out.mono ?_; rintro e w2 ⟨rfl, rfl⟩)
    go_ret
    exact ⟨rfl, rfl⟩
  | false => cases b with
    | true =>
      go_enter Tryz.func54, Tryz.ntmps54
      go_wp2_with (first
        | (go_at_call 29; refine HL.out.mono ?_; rintro e w2 ⟨rfl, rfl⟩)
        | (go_at_call 31; refine HD.out.mono ?_; rintro e w2 ⟨rfl, rfl⟩))
      go_ret
      exact ⟨rfl, rfl⟩
    | false =>
      by_cases h : x = 95
      · subst h
        go_enter Tryz.func54, Tryz.ntmps54
        go_wp2_with (first
          | (go_at_call 29; refine HL.out.mono ?_; rintro e w2 ⟨rfl, rfl⟩)
          | (go_at_call 31; refine HD.out.mono ?_; rintro e w2 ⟨rfl, rfl⟩))
        go_ret
        exact ⟨rfl, rfl⟩
      · have g : ((x : Int) == 95) = false := beq_false_of_ne (by omega)
        have HE : Hid ((x == 95) = false) := Lib.hid (by simpa using h)
        rw [HE.out]
        clear h
        go_enter Tryz.func54, Tryz.ntmps54
        go_wp2_with (first
          | (go_at_call 29; refine HL.out.mono ?_; rintro e w2 ⟨rfl, rfl⟩)
          | (go_at_call 31; refine HD.out.mono ?_; rintro e w2 ⟨rfl, rfl⟩))
        go_ret
        exact ⟨rfl, rfl⟩
theorem byte_at (s : ByteArray) (i : Nat) (h : i < s.size) : s.data.toList[i]? = some (s[i]'h) := by
  have h2 : i < s.data.size := h
  simp only [Array.getElem?_toList, Array.getElem?_eq_getElem h2]
  rfl
def RunI (p : UInt8 → Bool) (l : List UInt8) (v : Value) : Prop := ∃ i : Nat, v = .int .i64 (i : Int) ∧ i ≤ runL p l
theorem size_list' (s : ByteArray) : s.data.toList.length = s.size := by rw [Array.length_toList]; rfl
set_option maxRecDepth 100000 in
set_option maxHeartbeats 2000000 in
theorem run_isBlank (s : ByteArray) (hs : s.size ≤ 1000000) (w : World) : Calls Tryz.prog 19 #[.string s, .func (.func 20) #[] #[]] w fun e w' => e = .returned (.int .i64 (runL blankB s.data.toList : Int)) ∧ w = w' := by
  have HST : Hid (RunI blankB s.data.toList (.int .i64 0)) := Lib.hid ⟨0, rfl, Nat.zero_le _⟩
  have hsi : (s.size : Int) ≤ 1000000 := by omega
  have HSZ := Lib.hid (size_list' s)
  have HLE := Lib.hid (runL_le blankB s.data.toList)
  clear hs
  go_enter Tryz.func19, Tryz.ntmps19
  go_wp2_with fail
  go_loop [5] (fun v5 => RunI blankB s.data.toList v5) (fun v5 => s.size - (intOf v5).toNat)
  case atStart => exact HST.out
  case round =>
    obtain ⟨i, rfl, hi⟩ := hrel
    have HI := Lib.hid hi
    have hle : i ≤ s.size := by have := HLE.out; have := HSZ.out; omega
    clear hi
    by_cases hlt : i < s.size
    · have hlti : (i : Int) < (s.size : Int) := by omega
      have HS := Lib.hid (runL_at blankB s.data.toList i _ (byte_at s i hlt) HI.out)
      have HC := Lib.hid (isBlank_any (s[i]'hlt) w)
      cases hp : blankB (s[i]'hlt) with
      | true =>
        rw [hp] at HC
        have HY : Hid (∀ v5, v5 = .int .i64 ((i + 1 : Nat) : Int) → RunI blankB s.data.toList v5) := Lib.hid fun v5 h5 => ⟨i + 1, h5, HS.out.1 hp⟩
        clear hp
        go_wp2_with (go_at_call 20; refine HC.out.mono ?_; rintro e w2 ⟨rfl, rfl⟩)
        go_round
        case rel => exact HY.out _ (by go_num)
        case measure => simp [intOf]; omega
      | false =>
        rw [hp] at HC
        have HY : Hid ((runL blankB s.data.toList : Int) = (i : Int)) := Lib.hid (by rw [HS.out.2 hp])
        clear hp
        go_wp2_with (go_at_call 20; refine HC.out.mono ?_; rintro e w2 ⟨rfl, rfl⟩)
        go_ret
        exact ⟨ret_int HY.out.symm, rfl⟩
    · obtain rfl : i = s.size := by omega
      have HY : Hid ((runL blankB s.data.toList : Int) = (s.size : Int)) := Lib.hid (by have := HLE.out; have := HSZ.out; have := HI.out; omega)
      clear hlt hle
      go_wp2_with fail
      go_ret
      exact ⟨ret_int HY.out.symm, rfl⟩
set_option maxRecDepth 100000 in
set_option maxHeartbeats 2000000 in
theorem run_isDigit (s : ByteArray) (hs : s.size ≤ 1000000) (w : World) : Calls Tryz.prog 19 #[.string s, .func (.func 31) #[] #[]] w fun e w' => e = .returned (.int .i64 (runL digitB s.data.toList : Int)) ∧ w = w' := by
  have HST : Hid (RunI digitB s.data.toList (.int .i64 0)) := Lib.hid ⟨0, rfl, Nat.zero_le _⟩
  have hsi : (s.size : Int) ≤ 1000000 := by omega
  have HSZ := Lib.hid (size_list' s)
  have HLE := Lib.hid (runL_le digitB s.data.toList)
  clear hs
  go_enter Tryz.func19, Tryz.ntmps19
  go_wp2_with fail
  go_loop [5] (fun v5 => RunI digitB s.data.toList v5) (fun v5 => s.size - (intOf v5).toNat)
  case atStart => exact HST.out
  case round =>
    obtain ⟨i, rfl, hi⟩ := hrel
    have HI := Lib.hid hi
    have hle : i ≤ s.size := by have := HLE.out; have := HSZ.out; omega
    clear hi
    by_cases hlt : i < s.size
    · have hlti : (i : Int) < (s.size : Int) := by omega
      have HS := Lib.hid (runL_at digitB s.data.toList i _ (byte_at s i hlt) HI.out)
      have HC := Lib.hid (isDigit_any (s[i]'hlt) w)
      cases hp : digitB (s[i]'hlt) with
      | true =>
        rw [hp] at HC
        have HY : Hid (∀ v5, v5 = .int .i64 ((i + 1 : Nat) : Int) → RunI digitB s.data.toList v5) := Lib.hid fun v5 h5 => ⟨i + 1, h5, HS.out.1 hp⟩
        clear hp
        go_wp2_with (go_at_call 31; refine HC.out.mono ?_; rintro e w2 ⟨rfl, rfl⟩)
        go_round
        case rel => exact HY.out _ (by go_num)
        case measure => simp [intOf]; omega
      | false =>
        rw [hp] at HC
        have HY : Hid ((runL digitB s.data.toList : Int) = (i : Int)) := Lib.hid (by rw [HS.out.2 hp])
        clear hp
        go_wp2_with (go_at_call 31; refine HC.out.mono ?_; rintro e w2 ⟨rfl, rfl⟩)
        go_ret
        exact ⟨ret_int HY.out.symm, rfl⟩
    · obtain rfl : i = s.size := by omega
      have HY : Hid ((runL digitB s.data.toList : Int) = (s.size : Int)) := Lib.hid (by have := HLE.out; have := HSZ.out; have := HI.out; omega)
      clear hlt hle
      go_wp2_with fail
      go_ret
      exact ⟨ret_int HY.out.symm, rfl⟩
set_option maxRecDepth 100000 in
set_option maxHeartbeats 2000000 in
theorem run_inWord (s : ByteArray) (hs : s.size ≤ 1000000) (w : World) : Calls Tryz.prog 19 #[.string s, .func (.func 54) #[] #[]] w fun e w' => e = .returned (.int .i64 (runL wordB s.data.toList : Int)) ∧ w = w' := by
  have HST : Hid (RunI wordB s.data.toList (.int .i64 0)) := Lib.hid ⟨0, rfl, Nat.zero_le _⟩
  have hsi : (s.size : Int) ≤ 1000000 := by omega
  have HSZ := Lib.hid (size_list' s)
  have HLE := Lib.hid (runL_le wordB s.data.toList)
  clear hs
  go_enter Tryz.func19, Tryz.ntmps19
  go_wp2_with fail
  go_loop [5] (fun v5 => RunI wordB s.data.toList v5) (fun v5 => s.size - (intOf v5).toNat)
  case atStart => exact HST.out
  case round =>
    obtain ⟨i, rfl, hi⟩ := hrel
    have HI := Lib.hid hi
    have hle : i ≤ s.size := by have := HLE.out; have := HSZ.out; omega
    clear hi
    by_cases hlt : i < s.size
    · have hlti : (i : Int) < (s.size : Int) := by omega
      have HS := Lib.hid (runL_at wordB s.data.toList i _ (byte_at s i hlt) HI.out)
      have HC := Lib.hid (inWord_any (s[i]'hlt) w)
      cases hp : wordB (s[i]'hlt) with
      | true =>
        rw [hp] at HC
        have HY : Hid (∀ v5, v5 = .int .i64 ((i + 1 : Nat) : Int) → RunI wordB s.data.toList v5) := Lib.hid fun v5 h5 => ⟨i + 1, h5, HS.out.1 hp⟩
        clear hp
        go_wp2_with (go_at_call 54; refine HC.out.mono ?_; rintro e w2 ⟨rfl, rfl⟩)
        go_round
        case rel => exact HY.out _ (by go_num)
        case measure => simp [intOf]; omega
      | false =>
        rw [hp] at HC
        have HY : Hid ((runL wordB s.data.toList : Int) = (i : Int)) := Lib.hid (by rw [HS.out.2 hp])
        clear hp
        go_wp2_with (go_at_call 54; refine HC.out.mono ?_; rintro e w2 ⟨rfl, rfl⟩)
        go_ret
        exact ⟨ret_int HY.out.symm, rfl⟩
    · obtain rfl : i = s.size := by omega
      have HY : Hid ((runL wordB s.data.toList : Int) = (s.size : Int)) := Lib.hid (by have := HLE.out; have := HSZ.out; have := HI.out; omega)
      clear hlt hle
      go_wp2_with fail
      go_ret
      exact ⟨ret_int HY.out.symm, rfl⟩
set_option maxRecDepth 100000 in
theorem begins_no (c : Int) (w : World) : Calls Tryz.prog 27 #[.string ⟨#[]⟩, .int .u8 c] w fun e w' => e = .returned (.bool false) ∧ w = w' := by
  go_enter Tryz.func27, Tryz.ntmps27
  go_wp2_with fail
  go_ret
  exact ⟨rfl, rfl⟩
set_option maxRecDepth 100000 in
set_option maxHeartbeats 2000000 in
theorem begins_any (s : ByteArray) (c : Nat) (w : World) : Calls Tryz.prog 27 #[.string s, .int .u8 (c : Int)] w fun e w' => e = .returned (.bool (headIs c s.data.toList)) ∧ w = w' := by
  by_cases h0 : 0 < s.size
  · have h0i : (0 : Int) < (s.size : Int) := by omega
    have hne : (s.toList == ([] : List UInt8)) = false := by
      rw [ByteArray.toList_eq]
      have := size_list' s
      cases hl : s.data.toList with
      | nil => rw [hl] at this; simp at this; omega
      | cons a l => rfl
    have HH : Hid (headIs c s.data.toList = ((s[0]'h0).toNat == c)) := Lib.hid (by
      have := byte_at s 0 h0
      cases hl : s.data.toList with
      | nil => rw [hl] at this; simp at this
      | cons a l =>
        rw [hl] at this
        have h3 : a = s[0]'h0 := by simpa using this
        rw [← h3]; rfl)
    rw [HH.out]
    by_cases hc : (s[0]'h0).toNat = c
    · have hz : (((s[0]'h0).toNat : Int) == (c : Int)) = true := by rw [hc]; simp
      have HE : Hid (((s[0]'h0).toNat == c) = true) := Lib.hid (by simpa using hc)
      rw [HE.out]
      clear hc
      go_enter Tryz.func27, Tryz.ntmps27
      go_wp2_with fail
      go_ret
      exact ⟨rfl, rfl⟩
    · have hz : (((s[0]'h0).toNat : Int) == (c : Int)) = false := beq_false_of_ne (by omega)
      have HE : Hid (((s[0]'h0).toNat == c) = false) := Lib.hid (by simpa using hc)
      rw [HE.out]
      clear hc
      go_enter Tryz.func27, Tryz.ntmps27
      go_wp2_with fail
      go_ret
      exact ⟨rfl, rfl⟩
  · have he : s = ⟨#[]⟩ := by
      apply ByteArray.ext
      have : s.data.size = 0 := by have : s.data.size = s.size := rfl; omega
      exact Array.eq_empty_of_size_eq_zero this
    subst he
    exact begins_no _ w
end Go.Proofs.YtokkbipdkakenaaGreatDoor
