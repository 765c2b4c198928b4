/- Package lex: signs. -/
import Derived.Test.YtokkbipdkakenaaGreatDoorBC
namespace Go.Proofs.YtokkbipdkakenaaGreatDoor
open Go.RowKit

theorem drop1 (s : ByteArray) : (s.extract 1 s.size).data.toList = s.data.toList.drop 1 := by
  rw [ext_list, ← size_list' s, List.take_length]
theorem begins1 (s : ByteArray) (c : Nat) (w : World) : Calls Tryz.prog 27 #[.string (s.extract 1 s.size), .int .u8 (c : Int)] w fun e w' => e = .returned (.bool (headIs c (s.data.toList.drop 1))) ∧ w = w' := by
  have := begins_any (s.extract 1 s.size) c w
  rwa [drop1] at this
theorem cons_of (s : ByteArray) (h : 0 < s.size) : s.data.toList = (s[0]'h) :: s.data.toList.drop 1 := by
  have := byte_at s 0 h
  cases hl : s.data.toList with
  | nil => rw [hl] at this; simp at this
  | cons a l => rw [hl] at this; simp at this; rw [this]; rfl
def SgT (l : List UInt8) (n : Nat) : Tok := ⟨5, l.take n, noV, 0⟩
theorem SgT.val (s : ByteArray) (n : Nat) : (SgT s.data.toList n).v = .agg #[.int .i64 5, .string (s.extract 0 n), .int .i64 0, .int .i64 0, .string ⟨#[]⟩, .int .i64 0] := by
  unfold SgT Tok.v noV
  rw [ext_of s 0 n, List.drop_zero]
  rfl
theorem signT_of (s : ByteArray) (h : 0 < s.size) (n : Nat) (hn : signN (s[0]'h).toNat (s.data.toList.drop 1) = n) (h0 : n ≠ 0) : signT s.data.toList = some (SgT s.data.toList n) := by
  have hc := cons_of s h
  unfold signT
  rw [hc]
  simp only
  rw [hn, if_neg h0]
  rfl
theorem signT_no (s : ByteArray) (h : 0 < s.size) (hn : signN (s[0]'h).toNat (s.data.toList.drop 1) = 0) : signT s.data.toList = none := by
  have hc := cons_of s h
  unfold signT
  rw [hc]
  simp only
  rw [hn, if_pos rfl]
theorem two_of (s : ByteArray) (c : Nat) (h : headIs c (s.data.toList.drop 1) = true) : 2 ≤ s.size := by
  have := headIs_drop _ _ _ h
  rw [size_list'] at this
  omega
set_option maxRecDepth 100000 in
set_option maxHeartbeats 4000000 in
theorem sign_l2 (s : ByteArray) (hs : s.size ≤ 1000) (h0 : 0 < s.size) (hc : (s[0]'h0).toNat = 60) (h62 : headIs 62 (s.data.toList.drop 1) = true) (w : World) : Calls Tryz.prog 34 #[.string s] w (TkR (signT s.data.toList) w) := by
  have HX := Lib.hid (BX.first w #[.int .i64 0, .string ⟨#[]⟩, .int .i64 0, .int .i64 0, .string ⟨#[]⟩, .int .i64 0] 35)
  have HG : Hid (∀ W, Calls Tryz.prog 27 #[.string (s.extract 1 s.size), .int .u8 62] W fun e w' => e = .returned (.bool (headIs 62 (s.data.toList.drop 1))) ∧ W = w') := Lib.hid (fun W => begins1 s 62 W)
  have HQ : Hid (∀ W, Calls Tryz.prog 27 #[.string (s.extract 1 s.size), .int .u8 61] W fun e w' => e = .returned (.bool (headIs 61 (s.data.toList.drop 1))) ∧ W = w') := Lib.hid (fun W => begins1 s 61 W)
  have h2 := two_of s 62 h62
  have h61 : headIs 61 (s.data.toList.drop 1) = false := by
    cases hd : s.data.toList.drop 1 with
    | nil => rfl
    | cons a l => rw [hd] at h62; simp [headIs] at h62 ⊢; omega
  rw [h62] at HG
  rw [h61] at HQ
  have HL := Lib.hid (signT_of s h0 2 (by unfold signN; rw [if_pos hc, h61, h62]; rfl) (by omega))
  have HV := Lib.hid (SgT.val s 2)
  have HT := Lib.hid (fun W => token_any 5 (s.extract 0 2) 0 0 ⟨#[]⟩ (by rw [ext_size _ _ _ (by omega)]; omega) W)
  have hci : ((s[0]'h0).toNat : Int) = 60 := by omega
  have h0i : (0 : Int) < (s.size : Int) := by omega
  have h1i : (2 : Int) ≤ (s.size : Int) := by omega
  clear hs hc
  go_enter Tryz.func34, Tryz.ntmps34
  go_wp2_with (first
    | (go_at_call 27; (with_reducible refine (HG.out _).mono ?_); rintro e w2 ⟨rfl, rfl⟩)
    | (go_at_call 27; (with_reducible refine (HQ.out _).mono ?_); rintro e w2 ⟨rfl, rfl⟩)
    | (go_at_call 53; refine (HT.out _).mono ?_; rintro e w3 ⟨rfl, hb⟩
       have HX := Lib.hid (HX.out.next hb)
       obtain ⟨r0, r1, r2, r3, r4, r5⟩ := box6 HX.out.box
       have z0 := frozen_b HX.out.box 0
       have z1 := frozen_b HX.out.box 1
       have z2 := frozen_b HX.out.box 2
       have z3 := frozen_b HX.out.box 3
       have z4 := frozen_b HX.out.box 4
       have z5 := frozen_b HX.out.box 5
       clear hb))
  exact bodyPost_ret (v := .tuple #[.agg #[.int .i64 5, .string (s.extract 0 2), .int .i64 0, .int .i64 0, .string ⟨#[]⟩, .int .i64 0], .bool true]) (by simp [results, Tryz.results34, go_sem, r0, r1, r2, r3, r4, r5]) rfl (TkR.ok HL.out HV.out (set6_below HX.out.bel (by omega) _ _ _ _ _ _))
set_option maxRecDepth 100000 in
set_option maxHeartbeats 4000000 in
theorem sign_le (s : ByteArray) (hs : s.size ≤ 1000) (h0 : 0 < s.size) (hc : (s[0]'h0).toNat = 60) (h62 : headIs 62 (s.data.toList.drop 1) = false) (h61 : headIs 61 (s.data.toList.drop 1) = true) (w : World) : Calls Tryz.prog 34 #[.string s] w (TkR (signT s.data.toList) w) := by
  have HX := Lib.hid (BX.first w #[.int .i64 0, .string ⟨#[]⟩, .int .i64 0, .int .i64 0, .string ⟨#[]⟩, .int .i64 0] 35)
  have HG : Hid (∀ W, Calls Tryz.prog 27 #[.string (s.extract 1 s.size), .int .u8 62] W fun e w' => e = .returned (.bool (headIs 62 (s.data.toList.drop 1))) ∧ W = w') := Lib.hid (fun W => begins1 s 62 W)
  have HQ : Hid (∀ W, Calls Tryz.prog 27 #[.string (s.extract 1 s.size), .int .u8 61] W fun e w' => e = .returned (.bool (headIs 61 (s.data.toList.drop 1))) ∧ W = w') := Lib.hid (fun W => begins1 s 61 W)
  have h2 := two_of s 61 h61
  rw [h62] at HG
  rw [h61] at HQ
  have HL := Lib.hid (signT_of s h0 2 (by unfold signN; rw [if_pos hc, h61, h62]; rfl) (by omega))
  have HV := Lib.hid (SgT.val s 2)
  have HT := Lib.hid (fun W => token_any 5 (s.extract 0 2) 0 0 ⟨#[]⟩ (by rw [ext_size _ _ _ (by omega)]; omega) W)
  have hci : ((s[0]'h0).toNat : Int) = 60 := by omega
  have h0i : (0 : Int) < (s.size : Int) := by omega
  have h1i : (2 : Int) ≤ (s.size : Int) := by omega
  clear hs hc
  go_enter Tryz.func34, Tryz.ntmps34
  go_wp2_with (first
    | (go_at_call 27; (with_reducible refine (HG.out _).mono ?_); rintro e w2 ⟨rfl, rfl⟩)
    | (go_at_call 27; (with_reducible refine (HQ.out _).mono ?_); rintro e w2 ⟨rfl, rfl⟩)
    | (go_at_call 53; refine (HT.out _).mono ?_; rintro e w3 ⟨rfl, hb⟩
       have HX := Lib.hid (HX.out.next hb)
       obtain ⟨r0, r1, r2, r3, r4, r5⟩ := box6 HX.out.box
       have z0 := frozen_b HX.out.box 0
       have z1 := frozen_b HX.out.box 1
       have z2 := frozen_b HX.out.box 2
       have z3 := frozen_b HX.out.box 3
       have z4 := frozen_b HX.out.box 4
       have z5 := frozen_b HX.out.box 5
       clear hb))
  exact bodyPost_ret (v := .tuple #[.agg #[.int .i64 5, .string (s.extract 0 2), .int .i64 0, .int .i64 0, .string ⟨#[]⟩, .int .i64 0], .bool true]) (by simp [results, Tryz.results34, go_sem, r0, r1, r2, r3, r4, r5]) rfl (TkR.ok HL.out HV.out (set6_below HX.out.bel (by omega) _ _ _ _ _ _))
set_option maxRecDepth 100000 in
set_option maxHeartbeats 4000000 in
theorem sign_l1 (s : ByteArray) (hs : s.size ≤ 1000) (h0 : 0 < s.size) (hc : (s[0]'h0).toNat = 60) (h62 : headIs 62 (s.data.toList.drop 1) = false) (h61 : headIs 61 (s.data.toList.drop 1) = false) (w : World) : Calls Tryz.prog 34 #[.string s] w (TkR (signT s.data.toList) w) := by
  have HX := Lib.hid (BX.first w #[.int .i64 0, .string ⟨#[]⟩, .int .i64 0, .int .i64 0, .string ⟨#[]⟩, .int .i64 0] 35)
  have HG : Hid (∀ W, Calls Tryz.prog 27 #[.string (s.extract 1 s.size), .int .u8 62] W fun e w' => e = .returned (.bool (headIs 62 (s.data.toList.drop 1))) ∧ W = w') := Lib.hid (fun W => begins1 s 62 W)
  have HQ : Hid (∀ W, Calls Tryz.prog 27 #[.string (s.extract 1 s.size), .int .u8 61] W fun e w' => e = .returned (.bool (headIs 61 (s.data.toList.drop 1))) ∧ W = w') := Lib.hid (fun W => begins1 s 61 W)
  rw [h62] at HG
  rw [h61] at HQ
  have HL := Lib.hid (signT_of s h0 1 (by unfold signN; rw [if_pos hc, h61, h62]; rfl) (by omega))
  have HV := Lib.hid (SgT.val s 1)
  have HT := Lib.hid (fun W => token_any 5 (s.extract 0 1) 0 0 ⟨#[]⟩ (by rw [ext_size _ _ _ (by omega)]; omega) W)
  have hci : ((s[0]'h0).toNat : Int) = 60 := by omega
  have h0i : (0 : Int) < (s.size : Int) := by omega
  have h1i : (1 : Int) ≤ (s.size : Int) := by omega
  clear hs hc
  go_enter Tryz.func34, Tryz.ntmps34
  go_wp2_with (first
    | (go_at_call 27; (with_reducible refine (HG.out _).mono ?_); rintro e w2 ⟨rfl, rfl⟩)
    | (go_at_call 27; (with_reducible refine (HQ.out _).mono ?_); rintro e w2 ⟨rfl, rfl⟩)
    | (go_at_call 53; refine (HT.out _).mono ?_; rintro e w3 ⟨rfl, hb⟩
       have HX := Lib.hid (HX.out.next hb)
       obtain ⟨r0, r1, r2, r3, r4, r5⟩ := box6 HX.out.box
       have z0 := frozen_b HX.out.box 0
       have z1 := frozen_b HX.out.box 1
       have z2 := frozen_b HX.out.box 2
       have z3 := frozen_b HX.out.box 3
       have z4 := frozen_b HX.out.box 4
       have z5 := frozen_b HX.out.box 5
       clear hb))
  exact bodyPost_ret (v := .tuple #[.agg #[.int .i64 5, .string (s.extract 0 1), .int .i64 0, .int .i64 0, .string ⟨#[]⟩, .int .i64 0], .bool true]) (by simp [results, Tryz.results34, go_sem, r0, r1, r2, r3, r4, r5]) rfl (TkR.ok HL.out HV.out (set6_below HX.out.bel (by omega) _ _ _ _ _ _))
set_option maxRecDepth 100000 in
set_option maxHeartbeats 4000000 in
theorem sign_ge (s : ByteArray) (hs : s.size ≤ 1000) (h0 : 0 < s.size) (hc : (s[0]'h0).toNat = 62) (h61 : headIs 61 (s.data.toList.drop 1) = true) (w : World) : Calls Tryz.prog 34 #[.string s] w (TkR (signT s.data.toList) w) := by
  have HX := Lib.hid (BX.first w #[.int .i64 0, .string ⟨#[]⟩, .int .i64 0, .int .i64 0, .string ⟨#[]⟩, .int .i64 0] 35)
  have HG : Hid (∀ W, Calls Tryz.prog 27 #[.string (s.extract 1 s.size), .int .u8 62] W fun e w' => e = .returned (.bool (headIs 62 (s.data.toList.drop 1))) ∧ W = w') := Lib.hid (fun W => begins1 s 62 W)
  have HQ : Hid (∀ W, Calls Tryz.prog 27 #[.string (s.extract 1 s.size), .int .u8 61] W fun e w' => e = .returned (.bool (headIs 61 (s.data.toList.drop 1))) ∧ W = w') := Lib.hid (fun W => begins1 s 61 W)
  have h2 := two_of s 61 h61
  rw [h61] at HQ
  have HL := Lib.hid (signT_of s h0 2 (by unfold signN; rw [if_neg (by omega), if_pos hc, h61]; rfl) (by omega))
  have HV := Lib.hid (SgT.val s 2)
  have HT := Lib.hid (fun W => token_any 5 (s.extract 0 2) 0 0 ⟨#[]⟩ (by rw [ext_size _ _ _ (by omega)]; omega) W)
  have hci : ((s[0]'h0).toNat : Int) = 62 := by omega
  have h0i : (0 : Int) < (s.size : Int) := by omega
  have h1i : (2 : Int) ≤ (s.size : Int) := by omega
  clear hs hc
  go_enter Tryz.func34, Tryz.ntmps34
  go_wp2_with (first
    | (go_at_call 27; (with_reducible refine (HG.out _).mono ?_); rintro e w2 ⟨rfl, rfl⟩)
    | (go_at_call 27; (with_reducible refine (HQ.out _).mono ?_); rintro e w2 ⟨rfl, rfl⟩)
    | (go_at_call 53; refine (HT.out _).mono ?_; rintro e w3 ⟨rfl, hb⟩
       have HX := Lib.hid (HX.out.next hb)
       obtain ⟨r0, r1, r2, r3, r4, r5⟩ := box6 HX.out.box
       have z0 := frozen_b HX.out.box 0
       have z1 := frozen_b HX.out.box 1
       have z2 := frozen_b HX.out.box 2
       have z3 := frozen_b HX.out.box 3
       have z4 := frozen_b HX.out.box 4
       have z5 := frozen_b HX.out.box 5
       clear hb))
  exact bodyPost_ret (v := .tuple #[.agg #[.int .i64 5, .string (s.extract 0 2), .int .i64 0, .int .i64 0, .string ⟨#[]⟩, .int .i64 0], .bool true]) (by simp [results, Tryz.results34, go_sem, r0, r1, r2, r3, r4, r5]) rfl (TkR.ok HL.out HV.out (set6_below HX.out.bel (by omega) _ _ _ _ _ _))
set_option maxRecDepth 100000 in
set_option maxHeartbeats 4000000 in
theorem sign_g1 (s : ByteArray) (hs : s.size ≤ 1000) (h0 : 0 < s.size) (hc : (s[0]'h0).toNat = 62) (h61 : headIs 61 (s.data.toList.drop 1) = false) (w : World) : Calls Tryz.prog 34 #[.string s] w (TkR (signT s.data.toList) w) := by
  have HX := Lib.hid (BX.first w #[.int .i64 0, .string ⟨#[]⟩, .int .i64 0, .int .i64 0, .string ⟨#[]⟩, .int .i64 0] 35)
  have HG : Hid (∀ W, Calls Tryz.prog 27 #[.string (s.extract 1 s.size), .int .u8 62] W fun e w' => e = .returned (.bool (headIs 62 (s.data.toList.drop 1))) ∧ W = w') := Lib.hid (fun W => begins1 s 62 W)
  have HQ : Hid (∀ W, Calls Tryz.prog 27 #[.string (s.extract 1 s.size), .int .u8 61] W fun e w' => e = .returned (.bool (headIs 61 (s.data.toList.drop 1))) ∧ W = w') := Lib.hid (fun W => begins1 s 61 W)
  rw [h61] at HQ
  have HL := Lib.hid (signT_of s h0 1 (by unfold signN; rw [if_neg (by omega), if_pos hc, h61]; rfl) (by omega))
  have HV := Lib.hid (SgT.val s 1)
  have HT := Lib.hid (fun W => token_any 5 (s.extract 0 1) 0 0 ⟨#[]⟩ (by rw [ext_size _ _ _ (by omega)]; omega) W)
  have hci : ((s[0]'h0).toNat : Int) = 62 := by omega
  have h0i : (0 : Int) < (s.size : Int) := by omega
  have h1i : (1 : Int) ≤ (s.size : Int) := by omega
  clear hs hc
  go_enter Tryz.func34, Tryz.ntmps34
  go_wp2_with (first
    | (go_at_call 27; (with_reducible refine (HG.out _).mono ?_); rintro e w2 ⟨rfl, rfl⟩)
    | (go_at_call 27; (with_reducible refine (HQ.out _).mono ?_); rintro e w2 ⟨rfl, rfl⟩)
    | (go_at_call 53; refine (HT.out _).mono ?_; rintro e w3 ⟨rfl, hb⟩
       have HX := Lib.hid (HX.out.next hb)
       obtain ⟨r0, r1, r2, r3, r4, r5⟩ := box6 HX.out.box
       have z0 := frozen_b HX.out.box 0
       have z1 := frozen_b HX.out.box 1
       have z2 := frozen_b HX.out.box 2
       have z3 := frozen_b HX.out.box 3
       have z4 := frozen_b HX.out.box 4
       have z5 := frozen_b HX.out.box 5
       clear hb))
  exact bodyPost_ret (v := .tuple #[.agg #[.int .i64 5, .string (s.extract 0 1), .int .i64 0, .int .i64 0, .string ⟨#[]⟩, .int .i64 0], .bool true]) (by simp [results, Tryz.results34, go_sem, r0, r1, r2, r3, r4, r5]) rfl (TkR.ok HL.out HV.out (set6_below HX.out.bel (by omega) _ _ _ _ _ _))
set_option maxRecDepth 100000 in
set_option maxHeartbeats 4000000 in
theorem sign_one (s : ByteArray) (hs : s.size ≤ 1000) (h0 : 0 < s.size) (x : Nat) (hx : x ∈ signC) (hc : (s[0]'h0).toNat = x) (w : World) : Calls Tryz.prog 34 #[.string s] w (TkR (signT s.data.toList) w) := by
  have HX := Lib.hid (BX.first w #[.int .i64 0, .string ⟨#[]⟩, .int .i64 0, .int .i64 0, .string ⟨#[]⟩, .int .i64 0] 35)
  have HG : Hid (∀ W, Calls Tryz.prog 27 #[.string (s.extract 1 s.size), .int .u8 62] W fun e w' => e = .returned (.bool (headIs 62 (s.data.toList.drop 1))) ∧ W = w') := Lib.hid (fun W => begins1 s 62 W)
  have HQ : Hid (∀ W, Calls Tryz.prog 27 #[.string (s.extract 1 s.size), .int .u8 61] W fun e w' => e = .returned (.bool (headIs 61 (s.data.toList.drop 1))) ∧ W = w') := Lib.hid (fun W => begins1 s 61 W)
  have HL := Lib.hid (signT_of s h0 1 (by unfold signN; rw [hc, if_neg (by unfold signC at hx; simp at hx; omega), if_neg (by unfold signC at hx; simp at hx; omega), if_pos hx]) (by omega))
  have HV := Lib.hid (SgT.val s 1)
  have HT := Lib.hid (fun W => token_any 5 (s.extract 0 1) 0 0 ⟨#[]⟩ (by rw [ext_size _ _ _ (by omega)]; omega) W)
  have h0i : (0 : Int) < (s.size : Int) := by omega
  have h1i : (1 : Int) ≤ (s.size : Int) := by omega
  have hxs : x = 40 ∨ x = 41 ∨ x = 44 ∨ x = 42 ∨ x = 43 ∨ x = 45 ∨ x = 47 ∨ x = 61 ∨ x = 46 ∨ x = 59 := by unfold signC at hx; simpa using hx
  clear hs hx HG HQ
  rcases hxs with rfl | rfl | rfl | rfl | rfl | rfl | rfl | rfl | rfl | rfl
  all_goals
    have hci := congrArg (fun (n : Nat) => (n : Int)) hc
    simp only [Int.cast_ofNat_Int] at hci
    clear hc
    go_enter Tryz.func34, Tryz.ntmps34
    go_wp2_with (go_at_call 53; refine (HT.out _).mono ?_; rintro e w3 ⟨rfl, hb⟩
                 have HX := Lib.hid (HX.out.next hb)
                 obtain ⟨r0, r1, r2, r3, r4, r5⟩ := box6 HX.out.box
                 have z0 := frozen_b HX.out.box 0
                 have z1 := frozen_b HX.out.box 1
                 have z2 := frozen_b HX.out.box 2
                 have z3 := frozen_b HX.out.box 3
                 have z4 := frozen_b HX.out.box 4
                 have z5 := frozen_b HX.out.box 5
                 clear hb)
    exact bodyPost_ret (v := .tuple #[.agg #[.int .i64 5, .string (s.extract 0 1), .int .i64 0, .int .i64 0, .string ⟨#[]⟩, .int .i64 0], .bool true]) (by simp [results, Tryz.results34, go_sem, r0, r1, r2, r3, r4, r5]) rfl (TkR.ok HL.out HV.out (set6_below HX.out.bel (by omega) _ _ _ _ _ _))
set_option maxRecDepth 100000 in
set_option maxHeartbeats 4000000 in
theorem sign_none (s : ByteArray) (h0 : 0 < s.size) (h60 : (s[0]'h0).toNat ≠ 60) (h62 : (s[0]'h0).toNat ≠ 62) (hx : (s[0]'h0).toNat ∉ signC) (w : World) : Calls Tryz.prog 34 #[.string s] w (TkR (signT s.data.toList) w) := by
  have HX := Lib.hid (BX.first w #[.int .i64 0, .string ⟨#[]⟩, .int .i64 0, .int .i64 0, .string ⟨#[]⟩, .int .i64 0] 35)
  have HL := Lib.hid (signT_no s h0 (by unfold signN; rw [if_neg h60, if_neg h62, if_neg hx]))
  have h0i : (0 : Int) < (s.size : Int) := by omega
  have hx2 : (s[0]'h0).toNat ≠ 40 ∧ (s[0]'h0).toNat ≠ 41 ∧ (s[0]'h0).toNat ≠ 44 ∧ (s[0]'h0).toNat ≠ 42 ∧ (s[0]'h0).toNat ≠ 43 ∧ (s[0]'h0).toNat ≠ 45 ∧ (s[0]'h0).toNat ≠ 47 ∧ (s[0]'h0).toNat ≠ 61 ∧ (s[0]'h0).toNat ≠ 46 ∧ (s[0]'h0).toNat ≠ 59 := by unfold signC at hx; simpa using hx
  have g60 : (((s[0]'h0).toNat : Int) == 60) = false := beq_false_of_ne (by omega)
  have g62 : (((s[0]'h0).toNat : Int) == 62) = false := beq_false_of_ne (by omega)
  have g40 : (((s[0]'h0).toNat : Int) == 40) = false := beq_false_of_ne (by omega)
  have g41 : (((s[0]'h0).toNat : Int) == 41) = false := beq_false_of_ne (by omega)
  have g44 : (((s[0]'h0).toNat : Int) == 44) = false := beq_false_of_ne (by omega)
  have g42 : (((s[0]'h0).toNat : Int) == 42) = false := beq_false_of_ne (by omega)
  have g43 : (((s[0]'h0).toNat : Int) == 43) = false := beq_false_of_ne (by omega)
  have g45 : (((s[0]'h0).toNat : Int) == 45) = false := beq_false_of_ne (by omega)
  have g47 : (((s[0]'h0).toNat : Int) == 47) = false := beq_false_of_ne (by omega)
  have g61 : (((s[0]'h0).toNat : Int) == 61) = false := beq_false_of_ne (by omega)
  have g46 : (((s[0]'h0).toNat : Int) == 46) = false := beq_false_of_ne (by omega)
  have g59 : (((s[0]'h0).toNat : Int) == 59) = false := beq_false_of_ne (by omega)
  clear hx hx2 h60 h62
  obtain ⟨r0, r1, r2, r3, r4, r5⟩ := box6 HX.out.box
  have z0 := frozen_b HX.out.box 0
  have z1 := frozen_b HX.out.box 1
  have z2 := frozen_b HX.out.box 2
  have z3 := frozen_b HX.out.box 3
  have z4 := frozen_b HX.out.box 4
  have z5 := frozen_b HX.out.box 5
  go_enter Tryz.func34, Tryz.ntmps34
  go_wp2_with fail
  exact bodyPost_ret (v := .tuple #[zeroT.v, .bool false]) (by simp [results, Tryz.results34, go_sem, r0, r1, r2, r3, r4, r5, zeroT, Tok.v, noV]) rfl (TkR.no HL.out rfl HX.out.bel)
theorem takeSign_any (s : ByteArray) (hs : s.size ≤ 1000) (h0 : 0 < s.size) (w : World) : Calls Tryz.prog 34 #[.string s] w (TkR (signT s.data.toList) w) := by
  by_cases h60 : (s[0]'h0).toNat = 60
  · cases h62 : headIs 62 (s.data.toList.drop 1) with
    | true => exact sign_l2 s hs h0 h60 h62 w
    | false => cases h61 : headIs 61 (s.data.toList.drop 1) with
      | true => exact sign_le s hs h0 h60 h62 h61 w
      | false => exact sign_l1 s hs h0 h60 h62 h61 w
  · by_cases h62 : (s[0]'h0).toNat = 62
    · cases h61 : headIs 61 (s.data.toList.drop 1) with
      | true => exact sign_ge s hs h0 h62 h61 w
      | false => exact sign_g1 s hs h0 h62 h61 w
    · by_cases hx : (s[0]'h0).toNat ∈ signC
      · exact sign_one s hs h0 _ hx rfl w
      · exact sign_none s h0 h60 h62 hx w
end Go.Proofs.YtokkbipdkakenaaGreatDoor
