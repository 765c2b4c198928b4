/- RowNumbers: the law's own body answers true. -/
import Derived.Test.YtnifbhcnehcgiaaWI
import Derived.Test.YtnifbhcnehcgiaaWF
import Derived.Test.YtnifbhcnehcgiaaKJA
namespace Go.Proofs.Ytnifbhcnehcgiaa
open Go.RowKit

theorem vL_take (u i : Nat) (h : i < (vL u).length) : Mor ((vL u).take i) := by
  induction i generalizing u with
  | zero => rw [List.take_zero]; exact Mor.nil
  | succ i ih =>
    by_cases hu : u < 128
    · rw [vL_lo hu] at h; simp at h
    · rw [vL_hi hu] at h ⊢
      rw [List.take_succ_cons]
      intro x hx
      rw [List.mem_cons] at hx
      rcases hx with rfl | hx
      · rw [ofNat_toNat (by omega)]; omega
      · exact ih (u / 128) (by simpa using h) x hx
/-- at the head of its loop -/
def RNL (w : World) (L : Nat) (v11 : Value) (wr : World) : Prop := ∃ k : Nat, v11 = .int .i64 k ∧ k ≤ L ∧ Below w.heap.size w wr
set_option maxRecDepth 100000 in
set_option maxHeartbeats 40000000 in
theorem rowNumbers_law (n m : Int) (b : List UInt8) (C : Option Addr) (cap2 : Nat) (w : World) (hn : i64ok n) (hm : i64ok m) (hrb : RdB w w.heap.size C b) :
    Calls Try.prog 8 #[.int .i64 n, .int .i64 m, .slice C b.length cap2] w (Ans (.bool true) w) := by
  obtain ⟨i0, hi, hz0, hz1, hz2⟩ := info_parts info8
  have HRB := Lib.hid hrb
  have AL := Lib.hid alive5_any
  by_cases h100 : b.length ≤ 100
  · have h100i : ¬ (100 : Int) < (b.length : Int) := by omega
    have HNK := Lib.hid hn
    have HMK := Lib.hid hm
    have HZL := Lib.hid (zig_lt hn.1 hn.2)
    obtain ⟨X, hX⟩ : ∃ X, Hid (X = vL (zig n)) := ⟨_, Lib.hid rfl⟩
    have HXL : Hid (X.length ≤ 10) := Lib.hid (by rw [hX.out]; exact vL_10 HZL.out)
    have HX1 : Hid (1 ≤ X.length) := Lib.hid (by rw [hX.out]; exact vL_pos _)
    have HM0 : Hid (([] : List UInt8).length + X.length ≤ 1000000) := Lib.hid (by have := HXL.out; simp; omega)
    have HM1 : Hid (X.length + b.length ≤ 1000000) := Lib.hid (by have := HXL.out; omega)
    have LY : Hid (∀ A' n' k', n' = (X ++ b).length → ∀ w', (X ++ b).length ≤ k' → RdB w' w'.heap.size A' (X ++ b) → Calls Try.prog 23 #[.slice A' n' k'] w' (Ans (.tuple #[.int .i64 n, .int .i64 (X.length : Int), .bool true]) w')) := Lib.hid fun A' n' k' hn' w' hc hr => by
      have h := long_yes (zig n) b (X ++ b) (by rw [hX.out]) HZL.out A' n' k' hn' w' hc hr
      rw [zag_zig, ← hX.out] at h
      exact h
    clear hrb hn hm h100
    go_enter Try.func8, Try.ntmps8
    go_wp2_with fail
    refine (short_any n HNK.out w).mono ?_
    rintro e w1 ⟨v1, rfl, ho1, hb1⟩
    rw [← hX.out] at ho1
    obtain ⟨A1, k1, rfl, hk1⟩ := ho1.2
    have HOX := Lib.hid ho1
    have HB := Lib.hid hb1
    clear ho1 hb1
    go_wp2_with (first
      | (at_builtin
         refine wpList_appB (xs := X) (ys := b) (B := w1.heap.size) rfl _ _ 23 rfl Try.underlying23 hi hz0 hz1 hz2 rfl HO8.out rfl rfl ((HRB.out.below HB.out (Nat.le_refl _)).more HB.out.size) HM1.out H78.out ?_
         intro v9 w9 ho9 hg9
         obtain ⟨X9, k9, hv9, hk9⟩ := ho9.2
         subst hv9
         have HO9 := Lib.hid ho9
         have HOX := Lib.hid (HOX.out.below (H18.out.trans (hg9.toBelow H78.out HO8.out.ge)))
         have HB := Lib.hid (HB.out.trans (hg9.toBelow HB.out.size (fun k e => Nat.le_trans H77.out (HO8.out.ge k e))))
         have HK9 := Lib.hid hk9
         clear ho9 hg9 hk9)
      | (at_builtin
         refine wpList_appB (xs := []) (ys := X) (B := w1.heap.size) rfl _ _ 23 rfl Try.underlying23 hi hz0 hz1 hz2 rfl (own_empty (Nat.le_refl _) 5) rfl rfl (HOX.out.below (alloc_below w1 _)).rd HM0.out (alloc_below _ _).size ?_
         intro v8 w8 ho8 hg8
         have HO8 := Lib.hid ho8
         have H77 := Lib.hid HB.out.size
         have H78 : Hid (w1.heap.size ≤ w8.heap.size) := Lib.hid (Nat.le_trans (alloc_below w1 _).size hg8.by_.size)
         have H18 : Hid (Below w1.heap.size w1 w8) := Lib.hid ((alloc_below w1 _).trans (hg8.toBelow (alloc_below w1 _).size (own_empty (Nat.le_refl _) 5).ge))
         have HB := Lib.hid (HB.out.trans (H18.out.mono HB.out.size))
         clear ho8 hg8)
      | fail)
    refine (LY.out X9 _ k9 (by simp) w9 HK9.out HO9.out.rd).mono ?_
    rintro e w2 ⟨rfl, hb2⟩
    have HOX := Lib.hid (HOX.out.below hb2)
    have HB := Lib.hid (HB.out.trans (hb2.mono HB.out.size))
    clear hb2
    go_wp2_with fail
    go_loopw [11] (fun v11 wr => RNL w2 X.length v11 wr) (fun v11 _ => X.length - (intOf v11).toNat)
    case atStart => exact ⟨0, rfl, Nat.zero_le _, Below.refl _ _⟩
    case round =>
      obtain ⟨k, rfl, hk, hbk⟩ := hrel
      have HBK := Lib.hid hbk
      clear hbk
      by_cases hlt : k < X.length
      · have hki : (k : Int) < (X.length : Int) := by omega
        have hkc : (k : Int) ≤ (k1 : Int) := by omega
        have hk16 : (k : Int) ≤ 10 := by have := HXL.out; omega
        have hkcn : k ≤ k1 := by omega
        have HTK : Hid ((X.take k).length = k) := Lib.hid (by rw [List.length_take]; omega)
        have LN := Lib.hid (long_no (X.take k) (fun u r _ => by have h := vL_take (zig n) k (by rw [← hX.out]; exact hlt); rw [← hX.out] at h; exact vL_none h) A1 k k1 HTK.out.symm wr (by rw [HTK.out]; omega) ((HOX.out.below HBK.out).rd.take k))
        have HN : Hid (∀ v11 wq, Below wr.heap.size wr wq → v11 = .int .i64 ((k + 1 : Nat) : Int) → RNL w2 X.length v11 wq) := Lib.hid fun v11 wq hb h11 => ⟨k + 1, h11, hlt, HBK.out.trans (hb.mono HBK.out.size)⟩
        clear hlt hk
        go_wp2_with (go_at_call 23; refine LN.out.mono ?_; rintro e w3 ⟨rfl, hb3⟩; have HB3 := Lib.hid hb3; clear hb3)
        go_roundw
        case rel => first | exact HN.out _ _ HB3.out (by go_num) | ((repeat apply Exists.intro); exact ⟨HN.out _ _ HB3.out (by go_num), rfl⟩)
        case measure => simp [intOf]; omega
      · have hkl : k = X.length := by omega
        subst hkl
        have hnlt : ¬ ((X.length : Int) < (X.length : Int)) := by omega
        have HB := Lib.hid (HB.out.trans (HBK.out.mono HB.out.size))
        have hx10 : (X.length : Int) ≤ 10 := by have := HXL.out; omega
        have hx11 : (1 : Int) ≤ (X.length : Int) := by have := HX1.out; omega
        have hx10n : X.length ≤ 10 := HXL.out
        have hx11n : 1 ≤ X.length := HX1.out
        clear hlt hk
        obtain ⟨Y, hY⟩ : ∃ Y, Hid (Y = vL (zig m)) := ⟨_, Lib.hid rfl⟩
        have HLE : Hid (0 ≤ n ∧ n ≤ m ∨ n < 0 ∧ m ≤ n → X.length ≤ Y.length) := Lib.hid fun h => by rw [hX.out, hY.out]; exact vL_mono _ _ (zig_le h)
        have hcase : (0 ≤ n ∧ n ≤ m) ∨ (0 ≤ n ∧ m < n) ∨ (n < 0 ∧ m ≤ n) ∨ (n < 0 ∧ n < m) := by omega
        have SM := Lib.hid (short_any m HMK.out)
        rcases hcase with ⟨h1, h2⟩ | ⟨h1, h2⟩ | ⟨h1, h2⟩ | ⟨h1, h2⟩
        · have hle := HLE.out (.inl ⟨h1, h2⟩)
          have hlei : (X.length : Int) ≤ (Y.length : Int) := by omega
          go_wp2_with (first
            | (go_at_call 25; refine (SM.out _).mono ?_; rintro e w4 ⟨v4, rfl, ho4, hb4⟩
               rw [← hY.out] at ho4
               obtain ⟨A4, k4, hv4, hk4⟩ := ho4.2
               subst hv4
               have HB := Lib.hid (HB.out.trans (hb4.mono HB.out.size))
               clear ho4 hb4 hk4)
            | (go_at_call 18; refine (AL.out _).mono ?_; rintro e w5 ⟨rfl, hb5⟩; have HB := Lib.hid (HB.out.trans (hb5.mono HB.out.size)); clear hb5)
            | fail)
          go_ret
          exact ⟨rfl, HB.out⟩
        · have h1b : ¬ n < 0 := by omega
          have h2b : ¬ n ≤ m := by omega
          go_wp2_with (first
            | (go_at_call 25; refine (SM.out _).mono ?_; rintro e w4 ⟨v4, rfl, ho4, hb4⟩
               rw [← hY.out] at ho4
               obtain ⟨A4, k4, hv4, hk4⟩ := ho4.2
               subst hv4
               have HB := Lib.hid (HB.out.trans (hb4.mono HB.out.size))
               clear ho4 hb4 hk4)
            | (go_at_call 18; refine (AL.out _).mono ?_; rintro e w5 ⟨rfl, hb5⟩; have HB := Lib.hid (HB.out.trans (hb5.mono HB.out.size)); clear hb5)
            | fail)
          go_ret
          exact ⟨rfl, HB.out⟩
        · have hle := HLE.out (.inr ⟨h1, h2⟩)
          have hlei : (X.length : Int) ≤ (Y.length : Int) := by omega
          have h1b : ¬ 0 ≤ n := by omega
          go_wp2_with (first
            | (go_at_call 25; refine (SM.out _).mono ?_; rintro e w4 ⟨v4, rfl, ho4, hb4⟩
               rw [← hY.out] at ho4
               obtain ⟨A4, k4, hv4, hk4⟩ := ho4.2
               subst hv4
               have HB := Lib.hid (HB.out.trans (hb4.mono HB.out.size))
               clear ho4 hb4 hk4)
            | (go_at_call 18; refine (AL.out _).mono ?_; rintro e w5 ⟨rfl, hb5⟩; have HB := Lib.hid (HB.out.trans (hb5.mono HB.out.size)); clear hb5)
            | fail)
          go_ret
          exact ⟨rfl, HB.out⟩
        · have h1b : ¬ 0 ≤ n := by omega
          have h2b : ¬ m ≤ n := by omega
          go_wp2_with (first
            | (go_at_call 25; refine (SM.out _).mono ?_; rintro e w4 ⟨v4, rfl, ho4, hb4⟩
               rw [← hY.out] at ho4
               obtain ⟨A4, k4, hv4, hk4⟩ := ho4.2
               subst hv4
               have HB := Lib.hid (HB.out.trans (hb4.mono HB.out.size))
               clear ho4 hb4 hk4)
            | (go_at_call 18; refine (AL.out _).mono ?_; rintro e w5 ⟨rfl, hb5⟩; have HB := Lib.hid (HB.out.trans (hb5.mono HB.out.size)); clear hb5)
            | fail)
          go_ret
          exact ⟨rfl, HB.out⟩
  · have h100i : (100 : Int) < (b.length : Int) := by omega
    clear hrb hn hm h100
    go_enter Try.func8, Try.ntmps8
    go_wp2_with (go_at_call 18; refine (AL.out _).mono ?_; rintro e w3 ⟨rfl, hb3⟩; have HB := Lib.hid hb3; clear hb3)
    go_ret
    exact ⟨rfl, HB.out⟩
end Go.Proofs.Ytnifbhcnehcgiaa
