/- Package lex: the token that a text begins with. -/
import Derived.Test.YtokkbipdkakenaaGreatDoorBG
import Derived.Test.YtokkbipdkakenaaGreatDoorBE
namespace Go.Proofs.YtokkbipdkakenaaGreatDoor
open Go.RowKit

theorem firstL_of (s : ByteArray) (h0 : 0 < s.size) : firstL s.data.toList = (if ((s[0]'h0).toNat = 120 ∨ (s[0]'h0).toNat = 88) ∧ headIs 39 (s.data.toList.drop 1) = true then bytesT s.data.toList
    else if letterB (s[0]'h0) = true then some (wordT s.data.toList) else if digitB (s[0]'h0) = true then numT s.data.toList else if (s[0]'h0).toNat = 39 then textT s.data.toList else signT s.data.toList) := by
  have hc := cons_of s h0
  generalize s[0]'h0 = c at hc ⊢
  generalize s.data.toList.drop 1 = r at hc ⊢
  rw [hc]
  rfl
theorem letter_x (c : UInt8) (h : c.toNat = 120 ∨ c.toNat = 88) : letterB c = true := by
  unfold letterB; simp; omega
set_option maxRecDepth 100000 in
set_option maxHeartbeats 4000000 in
theorem first_xb_s (s : ByteArray) (h0 : 0 < s.size) (hx : (((s[0]'h0).toNat : Int) == 120) = true ∨ ((((s[0]'h0).toNat : Int) == 120) = false ∧ (((s[0]'h0).toNat : Int) == 88) = true)) (hq : headIs 39 (s.data.toList.drop 1) = true) (t : Tok) (HK : Hid (∀ W, Env W → Calls Tryz.prog 28 #[.string s] W fun e w' => e = .returned (.tuple #[.agg #[.int .i64 t.k, .string ⟨t.t.toArray⟩, .int .i64 t.x.1, .int .i64 t.x.2.1, .string ⟨t.x.2.2.toArray⟩, .int .i64 (t.a : Int)], .bool true]) ∧ Below W.heap.size W w')) (w : World) (hE : Env w) : Calls Tryz.prog 21 #[.string s] w (TkR (some t) w) := by
  have HE := Lib.hid hE
  have HX := Lib.hid (BX.first w #[.int .i64 0, .string ⟨#[]⟩, .int .i64 0, .int .i64 0, .string ⟨#[]⟩, .int .i64 0] 35)
  have h0i : (0 : Int) < (s.size : Int) := by omega
  have h1i : (1 : Int) ≤ (s.size : Int) := by omega
  clear hE
  have HQ : Hid (∀ W, Calls Tryz.prog 27 #[.string (s.extract 1 s.size), .int .u8 39] W fun e w' => e = .returned (.bool (headIs 39 (s.data.toList.drop 1))) ∧ W = w') := Lib.hid (fun W => begins1 s 39 W)
  rw [hq] at HQ
  clear hq
  rcases hx with g120 | ⟨g120, g88⟩
  · go_enter Tryz.func21, Tryz.ntmps21
    go_wp2_with (first
      | (go_at_call 27; refine (HQ.out _).mono ?_; rintro e w2 ⟨rfl, rfl⟩)
      | (go_at_call 28; refine (HK.out _ (HE.out.below HX.out.bel)).mono ?_; rintro e w3 ⟨rfl, hb⟩
         have HX := Lib.hid (HX.out.next hb)
         obtain ⟨r0, r1, r2, r3, r4, r5⟩ := box6 HX.out.box
         have z0 := frozen_b HX.out.box 0
         have z1 := frozen_b HX.out.box 1
         have z2 := frozen_b HX.out.box 2
         have z3 := frozen_b HX.out.box 3
         have z4 := frozen_b HX.out.box 4
         have z5 := frozen_b HX.out.box 5
         clear hb))
    exact bodyPost_ret (v := .tuple #[.agg #[.int .i64 t.k, .string ⟨t.t.toArray⟩, .int .i64 t.x.1, .int .i64 t.x.2.1, .string ⟨t.x.2.2.toArray⟩, .int .i64 (t.a : Int)], .bool true]) (by simp [results, Tryz.results21, go_sem, r0, r1, r2, r3, r4, r5]) rfl (TkR.ok rfl rfl (set6_below HX.out.bel (by omega) _ _ _ _ _ _))
  · go_enter Tryz.func21, Tryz.ntmps21
    go_wp2_with (first
      | (go_at_call 27; refine (HQ.out _).mono ?_; rintro e w2 ⟨rfl, rfl⟩)
      | (go_at_call 28; refine (HK.out _ (HE.out.below HX.out.bel)).mono ?_; rintro e w3 ⟨rfl, hb⟩
         have HX := Lib.hid (HX.out.next hb)
         obtain ⟨r0, r1, r2, r3, r4, r5⟩ := box6 HX.out.box
         have z0 := frozen_b HX.out.box 0
         have z1 := frozen_b HX.out.box 1
         have z2 := frozen_b HX.out.box 2
         have z3 := frozen_b HX.out.box 3
         have z4 := frozen_b HX.out.box 4
         have z5 := frozen_b HX.out.box 5
         clear hb))
    exact bodyPost_ret (v := .tuple #[.agg #[.int .i64 t.k, .string ⟨t.t.toArray⟩, .int .i64 t.x.1, .int .i64 t.x.2.1, .string ⟨t.x.2.2.toArray⟩, .int .i64 (t.a : Int)], .bool true]) (by simp [results, Tryz.results21, go_sem, r0, r1, r2, r3, r4, r5]) rfl (TkR.ok rfl rfl (set6_below HX.out.bel (by omega) _ _ _ _ _ _))
set_option maxRecDepth 100000 in
set_option maxHeartbeats 4000000 in
theorem first_xb_n (s : ByteArray) (h0 : 0 < s.size) (hx : (((s[0]'h0).toNat : Int) == 120) = true ∨ ((((s[0]'h0).toNat : Int) == 120) = false ∧ (((s[0]'h0).toNat : Int) == 88) = true)) (hq : headIs 39 (s.data.toList.drop 1) = true) (HK : Hid (∀ W, Env W → Calls Tryz.prog 28 #[.string s] W fun e w' => ∃ t : Tok, e = .returned (.tuple #[.agg #[.int .i64 t.k, .string ⟨t.t.toArray⟩, .int .i64 t.x.1, .int .i64 t.x.2.1, .string ⟨t.x.2.2.toArray⟩, .int .i64 (t.a : Int)], .bool false]) ∧ Below W.heap.size W w')) (w : World) (hE : Env w) : Calls Tryz.prog 21 #[.string s] w (TkR none w) := by
  have HE := Lib.hid hE
  have HX := Lib.hid (BX.first w #[.int .i64 0, .string ⟨#[]⟩, .int .i64 0, .int .i64 0, .string ⟨#[]⟩, .int .i64 0] 35)
  have h0i : (0 : Int) < (s.size : Int) := by omega
  have h1i : (1 : Int) ≤ (s.size : Int) := by omega
  clear hE
  have HQ : Hid (∀ W, Calls Tryz.prog 27 #[.string (s.extract 1 s.size), .int .u8 39] W fun e w' => e = .returned (.bool (headIs 39 (s.data.toList.drop 1))) ∧ W = w') := Lib.hid (fun W => begins1 s 39 W)
  rw [hq] at HQ
  clear hq
  rcases hx with g120 | ⟨g120, g88⟩
  · go_enter Tryz.func21, Tryz.ntmps21
    go_wp2_with (first
      | (go_at_call 27; refine (HQ.out _).mono ?_; rintro e w2 ⟨rfl, rfl⟩)
      | (go_at_call 28; refine (HK.out _ (HE.out.below HX.out.bel)).mono ?_; rintro e w3 ⟨t, rfl, hb⟩
         have HX := Lib.hid (HX.out.next hb)
         obtain ⟨r0, r1, r2, r3, r4, r5⟩ := box6 HX.out.box
         have z0 := frozen_b HX.out.box 0
         have z1 := frozen_b HX.out.box 1
         have z2 := frozen_b HX.out.box 2
         have z3 := frozen_b HX.out.box 3
         have z4 := frozen_b HX.out.box 4
         have z5 := frozen_b HX.out.box 5
         clear hb))
    exact bodyPost_ret (v := .tuple #[.agg #[.int .i64 t.k, .string ⟨t.t.toArray⟩, .int .i64 t.x.1, .int .i64 t.x.2.1, .string ⟨t.x.2.2.toArray⟩, .int .i64 (t.a : Int)], .bool false]) (by simp [results, Tryz.results21, go_sem, r0, r1, r2, r3, r4, r5]) rfl (TkR.no (t := t) rfl rfl (set6_below HX.out.bel (by omega) _ _ _ _ _ _))
  · go_enter Tryz.func21, Tryz.ntmps21
    go_wp2_with (first
      | (go_at_call 27; refine (HQ.out _).mono ?_; rintro e w2 ⟨rfl, rfl⟩)
      | (go_at_call 28; refine (HK.out _ (HE.out.below HX.out.bel)).mono ?_; rintro e w3 ⟨t, rfl, hb⟩
         have HX := Lib.hid (HX.out.next hb)
         obtain ⟨r0, r1, r2, r3, r4, r5⟩ := box6 HX.out.box
         have z0 := frozen_b HX.out.box 0
         have z1 := frozen_b HX.out.box 1
         have z2 := frozen_b HX.out.box 2
         have z3 := frozen_b HX.out.box 3
         have z4 := frozen_b HX.out.box 4
         have z5 := frozen_b HX.out.box 5
         clear hb))
    exact bodyPost_ret (v := .tuple #[.agg #[.int .i64 t.k, .string ⟨t.t.toArray⟩, .int .i64 t.x.1, .int .i64 t.x.2.1, .string ⟨t.x.2.2.toArray⟩, .int .i64 (t.a : Int)], .bool false]) (by simp [results, Tryz.results21, go_sem, r0, r1, r2, r3, r4, r5]) rfl (TkR.no (t := t) rfl rfl (set6_below HX.out.bel (by omega) _ _ _ _ _ _))
set_option maxRecDepth 100000 in
set_option maxHeartbeats 4000000 in
theorem first_xw_s (s : ByteArray) (h0 : 0 < s.size) (hx : (((s[0]'h0).toNat : Int) == 120) = true ∨ ((((s[0]'h0).toNat : Int) == 120) = false ∧ (((s[0]'h0).toNat : Int) == 88) = true)) (hq : headIs 39 (s.data.toList.drop 1) = false) (t : Tok) (HK : Hid (∀ W, Env W → Calls Tryz.prog 30 #[.string s] W fun e w' => e = .returned (.tuple #[.agg #[.int .i64 t.k, .string ⟨t.t.toArray⟩, .int .i64 t.x.1, .int .i64 t.x.2.1, .string ⟨t.x.2.2.toArray⟩, .int .i64 (t.a : Int)], .bool true]) ∧ Below W.heap.size W w')) (w : World) (hE : Env w) : Calls Tryz.prog 21 #[.string s] w (TkR (some t) w) := by
  have HE := Lib.hid hE
  have HX := Lib.hid (BX.first w #[.int .i64 0, .string ⟨#[]⟩, .int .i64 0, .int .i64 0, .string ⟨#[]⟩, .int .i64 0] 35)
  have h0i : (0 : Int) < (s.size : Int) := by omega
  have h1i : (1 : Int) ≤ (s.size : Int) := by omega
  clear hE
  have HQ : Hid (∀ W, Calls Tryz.prog 27 #[.string (s.extract 1 s.size), .int .u8 39] W fun e w' => e = .returned (.bool (headIs 39 (s.data.toList.drop 1))) ∧ W = w') := Lib.hid (fun W => begins1 s 39 W)
  rw [hq] at HQ
  clear hq
  rcases hx with g120 | ⟨g120, g88⟩
  · go_enter Tryz.func21, Tryz.ntmps21
    go_wp2_with (first
      | (go_at_call 27; refine (HQ.out _).mono ?_; rintro e w2 ⟨rfl, rfl⟩)
      | (go_at_call 30; refine (HK.out _ (HE.out.below HX.out.bel)).mono ?_; rintro e w3 ⟨rfl, hb⟩
         have HX := Lib.hid (HX.out.next hb)
         obtain ⟨r0, r1, r2, r3, r4, r5⟩ := box6 HX.out.box
         have z0 := frozen_b HX.out.box 0
         have z1 := frozen_b HX.out.box 1
         have z2 := frozen_b HX.out.box 2
         have z3 := frozen_b HX.out.box 3
         have z4 := frozen_b HX.out.box 4
         have z5 := frozen_b HX.out.box 5
         clear hb))
    exact bodyPost_ret (v := .tuple #[.agg #[.int .i64 t.k, .string ⟨t.t.toArray⟩, .int .i64 t.x.1, .int .i64 t.x.2.1, .string ⟨t.x.2.2.toArray⟩, .int .i64 (t.a : Int)], .bool true]) (by simp [results, Tryz.results21, go_sem, r0, r1, r2, r3, r4, r5]) rfl (TkR.ok rfl rfl (set6_below HX.out.bel (by omega) _ _ _ _ _ _))
  · go_enter Tryz.func21, Tryz.ntmps21
    go_wp2_with (first
      | (go_at_call 27; refine (HQ.out _).mono ?_; rintro e w2 ⟨rfl, rfl⟩)
      | (go_at_call 30; refine (HK.out _ (HE.out.below HX.out.bel)).mono ?_; rintro e w3 ⟨rfl, hb⟩
         have HX := Lib.hid (HX.out.next hb)
         obtain ⟨r0, r1, r2, r3, r4, r5⟩ := box6 HX.out.box
         have z0 := frozen_b HX.out.box 0
         have z1 := frozen_b HX.out.box 1
         have z2 := frozen_b HX.out.box 2
         have z3 := frozen_b HX.out.box 3
         have z4 := frozen_b HX.out.box 4
         have z5 := frozen_b HX.out.box 5
         clear hb))
    exact bodyPost_ret (v := .tuple #[.agg #[.int .i64 t.k, .string ⟨t.t.toArray⟩, .int .i64 t.x.1, .int .i64 t.x.2.1, .string ⟨t.x.2.2.toArray⟩, .int .i64 (t.a : Int)], .bool true]) (by simp [results, Tryz.results21, go_sem, r0, r1, r2, r3, r4, r5]) rfl (TkR.ok rfl rfl (set6_below HX.out.bel (by omega) _ _ _ _ _ _))
set_option maxRecDepth 100000 in
set_option maxHeartbeats 4000000 in
theorem first_lw_s (s : ByteArray) (h0 : 0 < s.size) (g120 : (((s[0]'h0).toNat : Int) == 120) = false) (g88 : (((s[0]'h0).toNat : Int) == 88) = false) (hl : letterB (s[0]'h0) = true) (t : Tok) (HK : Hid (∀ W, Env W → Calls Tryz.prog 30 #[.string s] W fun e w' => e = .returned (.tuple #[.agg #[.int .i64 t.k, .string ⟨t.t.toArray⟩, .int .i64 t.x.1, .int .i64 t.x.2.1, .string ⟨t.x.2.2.toArray⟩, .int .i64 (t.a : Int)], .bool true]) ∧ Below W.heap.size W w')) (w : World) (hE : Env w) : Calls Tryz.prog 21 #[.string s] w (TkR (some t) w) := by
  have HE := Lib.hid hE
  have HX := Lib.hid (BX.first w #[.int .i64 0, .string ⟨#[]⟩, .int .i64 0, .int .i64 0, .string ⟨#[]⟩, .int .i64 0] 35)
  have h0i : (0 : Int) < (s.size : Int) := by omega
  have h1i : (1 : Int) ≤ (s.size : Int) := by omega
  clear hE
  have HL := Lib.hid (fun W => isLetter_any (s[0]'h0) W)
  rw [hl] at HL
  clear hl
  go_enter Tryz.func21, Tryz.ntmps21
  go_wp2_with (first
    | (go_at_call 29; refine (HL.out _).mono ?_; rintro e w2 ⟨rfl, rfl⟩)
    | (go_at_call 30; refine (HK.out _ (HE.out.below HX.out.bel)).mono ?_; rintro e w3 ⟨rfl, hb⟩
       have HX := Lib.hid (HX.out.next hb)
       obtain ⟨r0, r1, r2, r3, r4, r5⟩ := box6 HX.out.box
       have z0 := frozen_b HX.out.box 0
       have z1 := frozen_b HX.out.box 1
       have z2 := frozen_b HX.out.box 2
       have z3 := frozen_b HX.out.box 3
       have z4 := frozen_b HX.out.box 4
       have z5 := frozen_b HX.out.box 5
       clear hb))
  exact bodyPost_ret (v := .tuple #[.agg #[.int .i64 t.k, .string ⟨t.t.toArray⟩, .int .i64 t.x.1, .int .i64 t.x.2.1, .string ⟨t.x.2.2.toArray⟩, .int .i64 (t.a : Int)], .bool true]) (by simp [results, Tryz.results21, go_sem, r0, r1, r2, r3, r4, r5]) rfl (TkR.ok rfl rfl (set6_below HX.out.bel (by omega) _ _ _ _ _ _))
set_option maxRecDepth 100000 in
set_option maxHeartbeats 4000000 in
theorem first_nu_s (s : ByteArray) (h0 : 0 < s.size) (g120 : (((s[0]'h0).toNat : Int) == 120) = false) (g88 : (((s[0]'h0).toNat : Int) == 88) = false) (hl : letterB (s[0]'h0) = false) (hd : digitB (s[0]'h0) = true) (t : Tok) (HK : Hid (∀ W, Env W → Calls Tryz.prog 32 #[.string s] W fun e w' => e = .returned (.tuple #[.agg #[.int .i64 t.k, .string ⟨t.t.toArray⟩, .int .i64 t.x.1, .int .i64 t.x.2.1, .string ⟨t.x.2.2.toArray⟩, .int .i64 (t.a : Int)], .bool true]) ∧ Below W.heap.size W w')) (w : World) (hE : Env w) : Calls Tryz.prog 21 #[.string s] w (TkR (some t) w) := by
  have HE := Lib.hid hE
  have HX := Lib.hid (BX.first w #[.int .i64 0, .string ⟨#[]⟩, .int .i64 0, .int .i64 0, .string ⟨#[]⟩, .int .i64 0] 35)
  have h0i : (0 : Int) < (s.size : Int) := by omega
  have h1i : (1 : Int) ≤ (s.size : Int) := by omega
  clear hE
  have HL := Lib.hid (fun W => isLetter_any (s[0]'h0) W)
  rw [hl] at HL
  have HD := Lib.hid (fun W => isDigit_any (s[0]'h0) W)
  rw [hd] at HD
  clear hl hd
  go_enter Tryz.func21, Tryz.ntmps21
  go_wp2_with (first
    | (go_at_call 29; refine (HL.out _).mono ?_; rintro e w2 ⟨rfl, rfl⟩)
    | (go_at_call 31; refine (HD.out _).mono ?_; rintro e w2 ⟨rfl, rfl⟩)
    | (go_at_call 32; refine (HK.out _ (HE.out.below HX.out.bel)).mono ?_; rintro e w3 ⟨rfl, hb⟩
       have HX := Lib.hid (HX.out.next hb)
       obtain ⟨r0, r1, r2, r3, r4, r5⟩ := box6 HX.out.box
       have z0 := frozen_b HX.out.box 0
       have z1 := frozen_b HX.out.box 1
       have z2 := frozen_b HX.out.box 2
       have z3 := frozen_b HX.out.box 3
       have z4 := frozen_b HX.out.box 4
       have z5 := frozen_b HX.out.box 5
       clear hb))
  exact bodyPost_ret (v := .tuple #[.agg #[.int .i64 t.k, .string ⟨t.t.toArray⟩, .int .i64 t.x.1, .int .i64 t.x.2.1, .string ⟨t.x.2.2.toArray⟩, .int .i64 (t.a : Int)], .bool true]) (by simp [results, Tryz.results21, go_sem, r0, r1, r2, r3, r4, r5]) rfl (TkR.ok rfl rfl (set6_below HX.out.bel (by omega) _ _ _ _ _ _))
set_option maxRecDepth 100000 in
set_option maxHeartbeats 4000000 in
theorem first_nu_n (s : ByteArray) (h0 : 0 < s.size) (g120 : (((s[0]'h0).toNat : Int) == 120) = false) (g88 : (((s[0]'h0).toNat : Int) == 88) = false) (hl : letterB (s[0]'h0) = false) (hd : digitB (s[0]'h0) = true) (HK : Hid (∀ W, Env W → Calls Tryz.prog 32 #[.string s] W fun e w' => ∃ t : Tok, e = .returned (.tuple #[.agg #[.int .i64 t.k, .string ⟨t.t.toArray⟩, .int .i64 t.x.1, .int .i64 t.x.2.1, .string ⟨t.x.2.2.toArray⟩, .int .i64 (t.a : Int)], .bool false]) ∧ Below W.heap.size W w')) (w : World) (hE : Env w) : Calls Tryz.prog 21 #[.string s] w (TkR none w) := by
  have HE := Lib.hid hE
  have HX := Lib.hid (BX.first w #[.int .i64 0, .string ⟨#[]⟩, .int .i64 0, .int .i64 0, .string ⟨#[]⟩, .int .i64 0] 35)
  have h0i : (0 : Int) < (s.size : Int) := by omega
  have h1i : (1 : Int) ≤ (s.size : Int) := by omega
  clear hE
  have HL := Lib.hid (fun W => isLetter_any (s[0]'h0) W)
  rw [hl] at HL
  have HD := Lib.hid (fun W => isDigit_any (s[0]'h0) W)
  rw [hd] at HD
  clear hl hd
  go_enter Tryz.func21, Tryz.ntmps21
  go_wp2_with (first
    | (go_at_call 29; refine (HL.out _).mono ?_; rintro e w2 ⟨rfl, rfl⟩)
    | (go_at_call 31; refine (HD.out _).mono ?_; rintro e w2 ⟨rfl, rfl⟩)
    | (go_at_call 32; refine (HK.out _ (HE.out.below HX.out.bel)).mono ?_; rintro e w3 ⟨t, rfl, hb⟩
       have HX := Lib.hid (HX.out.next hb)
       obtain ⟨r0, r1, r2, r3, r4, r5⟩ := box6 HX.out.box
       have z0 := frozen_b HX.out.box 0
       have z1 := frozen_b HX.out.box 1
       have z2 := frozen_b HX.out.box 2
       have z3 := frozen_b HX.out.box 3
       have z4 := frozen_b HX.out.box 4
       have z5 := frozen_b HX.out.box 5
       clear hb))
  exact bodyPost_ret (v := .tuple #[.agg #[.int .i64 t.k, .string ⟨t.t.toArray⟩, .int .i64 t.x.1, .int .i64 t.x.2.1, .string ⟨t.x.2.2.toArray⟩, .int .i64 (t.a : Int)], .bool false]) (by simp [results, Tryz.results21, go_sem, r0, r1, r2, r3, r4, r5]) rfl (TkR.no (t := t) rfl rfl (set6_below HX.out.bel (by omega) _ _ _ _ _ _))
set_option maxRecDepth 100000 in
set_option maxHeartbeats 4000000 in
theorem first_tx_s (s : ByteArray) (h0 : 0 < s.size) (g120 : (((s[0]'h0).toNat : Int) == 120) = false) (g88 : (((s[0]'h0).toNat : Int) == 88) = false) (hl : letterB (s[0]'h0) = false) (hd : digitB (s[0]'h0) = false) (g39 : (((s[0]'h0).toNat : Int) == 39) = true) (t : Tok) (HK : Hid (∀ W, Env W → Calls Tryz.prog 33 #[.string s] W fun e w' => e = .returned (.tuple #[.agg #[.int .i64 t.k, .string ⟨t.t.toArray⟩, .int .i64 t.x.1, .int .i64 t.x.2.1, .string ⟨t.x.2.2.toArray⟩, .int .i64 (t.a : Int)], .bool true]) ∧ Below W.heap.size W w')) (w : World) (hE : Env w) : Calls Tryz.prog 21 #[.string s] w (TkR (some t) w) := by
  have HE := Lib.hid hE
  have HX := Lib.hid (BX.first w #[.int .i64 0, .string ⟨#[]⟩, .int .i64 0, .int .i64 0, .string ⟨#[]⟩, .int .i64 0] 35)
  have h0i : (0 : Int) < (s.size : Int) := by omega
  have h1i : (1 : Int) ≤ (s.size : Int) := by omega
  clear hE
  have HL := Lib.hid (fun W => isLetter_any (s[0]'h0) W)
  rw [hl] at HL
  have HD := Lib.hid (fun W => isDigit_any (s[0]'h0) W)
  rw [hd] at HD
  clear hl hd
  go_enter Tryz.func21, Tryz.ntmps21
  go_wp2_with (first
    | (go_at_call 29; refine (HL.out _).mono ?_; rintro e w2 ⟨rfl, rfl⟩)
    | (go_at_call 31; refine (HD.out _).mono ?_; rintro e w2 ⟨rfl, rfl⟩)
    | (go_at_call 33; refine (HK.out _ (HE.out.below HX.out.bel)).mono ?_; rintro e w3 ⟨rfl, hb⟩
       have HX := Lib.hid (HX.out.next hb)
       obtain ⟨r0, r1, r2, r3, r4, r5⟩ := box6 HX.out.box
       have z0 := frozen_b HX.out.box 0
       have z1 := frozen_b HX.out.box 1
       have z2 := frozen_b HX.out.box 2
       have z3 := frozen_b HX.out.box 3
       have z4 := frozen_b HX.out.box 4
       have z5 := frozen_b HX.out.box 5
       clear hb))
  exact bodyPost_ret (v := .tuple #[.agg #[.int .i64 t.k, .string ⟨t.t.toArray⟩, .int .i64 t.x.1, .int .i64 t.x.2.1, .string ⟨t.x.2.2.toArray⟩, .int .i64 (t.a : Int)], .bool true]) (by simp [results, Tryz.results21, go_sem, r0, r1, r2, r3, r4, r5]) rfl (TkR.ok rfl rfl (set6_below HX.out.bel (by omega) _ _ _ _ _ _))
set_option maxRecDepth 100000 in
set_option maxHeartbeats 4000000 in
theorem first_tx_n (s : ByteArray) (h0 : 0 < s.size) (g120 : (((s[0]'h0).toNat : Int) == 120) = false) (g88 : (((s[0]'h0).toNat : Int) == 88) = false) (hl : letterB (s[0]'h0) = false) (hd : digitB (s[0]'h0) = false) (g39 : (((s[0]'h0).toNat : Int) == 39) = true) (HK : Hid (∀ W, Env W → Calls Tryz.prog 33 #[.string s] W fun e w' => ∃ t : Tok, e = .returned (.tuple #[.agg #[.int .i64 t.k, .string ⟨t.t.toArray⟩, .int .i64 t.x.1, .int .i64 t.x.2.1, .string ⟨t.x.2.2.toArray⟩, .int .i64 (t.a : Int)], .bool false]) ∧ Below W.heap.size W w')) (w : World) (hE : Env w) : Calls Tryz.prog 21 #[.string s] w (TkR none w) := by
  have HE := Lib.hid hE
  have HX := Lib.hid (BX.first w #[.int .i64 0, .string ⟨#[]⟩, .int .i64 0, .int .i64 0, .string ⟨#[]⟩, .int .i64 0] 35)
  have h0i : (0 : Int) < (s.size : Int) := by omega
  have h1i : (1 : Int) ≤ (s.size : Int) := by omega
  clear hE
  have HL := Lib.hid (fun W => isLetter_any (s[0]'h0) W)
  rw [hl] at HL
  have HD := Lib.hid (fun W => isDigit_any (s[0]'h0) W)
  rw [hd] at HD
  clear hl hd
  go_enter Tryz.func21, Tryz.ntmps21
  go_wp2_with (first
    | (go_at_call 29; refine (HL.out _).mono ?_; rintro e w2 ⟨rfl, rfl⟩)
    | (go_at_call 31; refine (HD.out _).mono ?_; rintro e w2 ⟨rfl, rfl⟩)
    | (go_at_call 33; refine (HK.out _ (HE.out.below HX.out.bel)).mono ?_; rintro e w3 ⟨t, rfl, hb⟩
       have HX := Lib.hid (HX.out.next hb)
       obtain ⟨r0, r1, r2, r3, r4, r5⟩ := box6 HX.out.box
       have z0 := frozen_b HX.out.box 0
       have z1 := frozen_b HX.out.box 1
       have z2 := frozen_b HX.out.box 2
       have z3 := frozen_b HX.out.box 3
       have z4 := frozen_b HX.out.box 4
       have z5 := frozen_b HX.out.box 5
       clear hb))
  exact bodyPost_ret (v := .tuple #[.agg #[.int .i64 t.k, .string ⟨t.t.toArray⟩, .int .i64 t.x.1, .int .i64 t.x.2.1, .string ⟨t.x.2.2.toArray⟩, .int .i64 (t.a : Int)], .bool false]) (by simp [results, Tryz.results21, go_sem, r0, r1, r2, r3, r4, r5]) rfl (TkR.no (t := t) rfl rfl (set6_below HX.out.bel (by omega) _ _ _ _ _ _))
set_option maxRecDepth 100000 in
set_option maxHeartbeats 4000000 in
theorem first_sg_s (s : ByteArray) (h0 : 0 < s.size) (g120 : (((s[0]'h0).toNat : Int) == 120) = false) (g88 : (((s[0]'h0).toNat : Int) == 88) = false) (hl : letterB (s[0]'h0) = false) (hd : digitB (s[0]'h0) = false) (g39 : (((s[0]'h0).toNat : Int) == 39) = false) (t : Tok) (HK : Hid (∀ W, Env W → Calls Tryz.prog 34 #[.string s] W fun e w' => e = .returned (.tuple #[.agg #[.int .i64 t.k, .string ⟨t.t.toArray⟩, .int .i64 t.x.1, .int .i64 t.x.2.1, .string ⟨t.x.2.2.toArray⟩, .int .i64 (t.a : Int)], .bool true]) ∧ Below W.heap.size W w')) (w : World) (hE : Env w) : Calls Tryz.prog 21 #[.string s] w (TkR (some t) w) := by
  have HE := Lib.hid hE
  have HX := Lib.hid (BX.first w #[.int .i64 0, .string ⟨#[]⟩, .int .i64 0, .int .i64 0, .string ⟨#[]⟩, .int .i64 0] 35)
  have h0i : (0 : Int) < (s.size : Int) := by omega
  have h1i : (1 : Int) ≤ (s.size : Int) := by omega
  clear hE
  have HL := Lib.hid (fun W => isLetter_any (s[0]'h0) W)
  rw [hl] at HL
  have HD := Lib.hid (fun W => isDigit_any (s[0]'h0) W)
  rw [hd] at HD
  clear hl hd
  go_enter Tryz.func21, Tryz.ntmps21
  go_wp2_with (first
    | (go_at_call 29; refine (HL.out _).mono ?_; rintro e w2 ⟨rfl, rfl⟩)
    | (go_at_call 31; refine (HD.out _).mono ?_; rintro e w2 ⟨rfl, rfl⟩)
    | (go_at_call 34; refine (HK.out _ (HE.out.below HX.out.bel)).mono ?_; rintro e w3 ⟨rfl, hb⟩
       have HX := Lib.hid (HX.out.next hb)
       obtain ⟨r0, r1, r2, r3, r4, r5⟩ := box6 HX.out.box
       have z0 := frozen_b HX.out.box 0
       have z1 := frozen_b HX.out.box 1
       have z2 := frozen_b HX.out.box 2
       have z3 := frozen_b HX.out.box 3
       have z4 := frozen_b HX.out.box 4
       have z5 := frozen_b HX.out.box 5
       clear hb))
  exact bodyPost_ret (v := .tuple #[.agg #[.int .i64 t.k, .string ⟨t.t.toArray⟩, .int .i64 t.x.1, .int .i64 t.x.2.1, .string ⟨t.x.2.2.toArray⟩, .int .i64 (t.a : Int)], .bool true]) (by simp [results, Tryz.results21, go_sem, r0, r1, r2, r3, r4, r5]) rfl (TkR.ok rfl rfl (set6_below HX.out.bel (by omega) _ _ _ _ _ _))
set_option maxRecDepth 100000 in
set_option maxHeartbeats 4000000 in
theorem first_sg_n (s : ByteArray) (h0 : 0 < s.size) (g120 : (((s[0]'h0).toNat : Int) == 120) = false) (g88 : (((s[0]'h0).toNat : Int) == 88) = false) (hl : letterB (s[0]'h0) = false) (hd : digitB (s[0]'h0) = false) (g39 : (((s[0]'h0).toNat : Int) == 39) = false) (HK : Hid (∀ W, Env W → Calls Tryz.prog 34 #[.string s] W fun e w' => ∃ t : Tok, e = .returned (.tuple #[.agg #[.int .i64 t.k, .string ⟨t.t.toArray⟩, .int .i64 t.x.1, .int .i64 t.x.2.1, .string ⟨t.x.2.2.toArray⟩, .int .i64 (t.a : Int)], .bool false]) ∧ Below W.heap.size W w')) (w : World) (hE : Env w) : Calls Tryz.prog 21 #[.string s] w (TkR none w) := by
  have HE := Lib.hid hE
  have HX := Lib.hid (BX.first w #[.int .i64 0, .string ⟨#[]⟩, .int .i64 0, .int .i64 0, .string ⟨#[]⟩, .int .i64 0] 35)
  have h0i : (0 : Int) < (s.size : Int) := by omega
  have h1i : (1 : Int) ≤ (s.size : Int) := by omega
  clear hE
  have HL := Lib.hid (fun W => isLetter_any (s[0]'h0) W)
  rw [hl] at HL
  have HD := Lib.hid (fun W => isDigit_any (s[0]'h0) W)
  rw [hd] at HD
  clear hl hd
  go_enter Tryz.func21, Tryz.ntmps21
  go_wp2_with (first
    | (go_at_call 29; refine (HL.out _).mono ?_; rintro e w2 ⟨rfl, rfl⟩)
    | (go_at_call 31; refine (HD.out _).mono ?_; rintro e w2 ⟨rfl, rfl⟩)
    | (go_at_call 34; refine (HK.out _ (HE.out.below HX.out.bel)).mono ?_; rintro e w3 ⟨t, rfl, hb⟩
       have HX := Lib.hid (HX.out.next hb)
       obtain ⟨r0, r1, r2, r3, r4, r5⟩ := box6 HX.out.box
       have z0 := frozen_b HX.out.box 0
       have z1 := frozen_b HX.out.box 1
       have z2 := frozen_b HX.out.box 2
       have z3 := frozen_b HX.out.box 3
       have z4 := frozen_b HX.out.box 4
       have z5 := frozen_b HX.out.box 5
       clear hb))
  exact bodyPost_ret (v := .tuple #[.agg #[.int .i64 t.k, .string ⟨t.t.toArray⟩, .int .i64 t.x.1, .int .i64 t.x.2.1, .string ⟨t.x.2.2.toArray⟩, .int .i64 (t.a : Int)], .bool false]) (by simp [results, Tryz.results21, go_sem, r0, r1, r2, r3, r4, r5]) rfl (TkR.no (t := t) rfl rfl (set6_below HX.out.bel (by omega) _ _ _ _ _ _))
theorem split_s {o : Option Tok} {t : Tok} {f : FuncId} {s : ByteArray} (ho : o = some t) (h : ∀ W, Env W → Calls Tryz.prog f #[.string s] W (TkR o W)) : Hid (∀ W, Env W → Calls Tryz.prog f #[.string s] W fun e w' => e = .returned (.tuple #[.agg #[.int .i64 t.k, .string ⟨t.t.toArray⟩, .int .i64 t.x.1, .int .i64 t.x.2.1, .string ⟨t.x.2.2.toArray⟩, .int .i64 (t.a : Int)], .bool true]) ∧ Below W.heap.size W w') := by
  subst ho
  exact Lib.hid fun W hE => (h W hE).mono fun e w' hh => ⟨hh.2, hh.1⟩
theorem split_n {o : Option Tok} {f : FuncId} {s : ByteArray} (ho : o = none) (h : ∀ W, Env W → Calls Tryz.prog f #[.string s] W (TkR o W)) : Hid (∀ W, Env W → Calls Tryz.prog f #[.string s] W fun e w' => ∃ t : Tok, e = .returned (.tuple #[.agg #[.int .i64 t.k, .string ⟨t.t.toArray⟩, .int .i64 t.x.1, .int .i64 t.x.2.1, .string ⟨t.x.2.2.toArray⟩, .int .i64 (t.a : Int)], .bool false]) ∧ Below W.heap.size W w') := by
  subst ho
  exact Lib.hid fun W hE => (h W hE).mono fun e w' hh => by obtain ⟨hb, t, he⟩ := hh; exact ⟨t, he, hb⟩
theorem first_any (s : ByteArray) (hs : s.size ≤ 1000) (h0 : 0 < s.size) (w : World) (hE : Env w) : Calls Tryz.prog 21 #[.string s] w (TkR (firstL s.data.toList) w) := by
  rw [firstL_of s h0]
  have eqt : ∀ c : Nat, (s[0]'h0).toNat = c → (((s[0]'h0).toNat : Int) == (c : Int)) = true := fun c h => by rw [h]; simp
  have eqf : ∀ c : Nat, (s[0]'h0).toNat ≠ c → (((s[0]'h0).toNat : Int) == (c : Int)) = false := fun c h => beq_false_of_ne (by omega)
  by_cases hx : (s[0]'h0).toNat = 120 ∨ (s[0]'h0).toNat = 88
  · have hxs : (((s[0]'h0).toNat : Int) == 120) = true ∨ ((((s[0]'h0).toNat : Int) == 120) = false ∧ (((s[0]'h0).toNat : Int) == 88) = true) := by
      rcases hx with h | h
      · exact .inl (eqt 120 h)
      · exact .inr ⟨eqf 120 (by omega), eqt 88 h⟩
    cases hq : headIs 39 (s.data.toList.drop 1) with
    | true =>
      rw [if_pos ⟨hx, rfl⟩]
      have h2 := two_of s 39 hq
      cases ho : bytesT s.data.toList with
      | some t => exact first_xb_s s h0 hxs hq t (split_s ho (fun W h => takeBytes_any s hs h2 W h)) w hE
      | none => exact first_xb_n s h0 hxs hq (split_n ho (fun W h => takeBytes_any s hs h2 W h)) w hE
    | false =>
      rw [if_neg (by simp), if_pos (letter_x _ hx)]
      exact first_xw_s s h0 hxs hq _ (split_s rfl (fun W _ => takeWord_any s hs W)) w hE
  · rw [if_neg (fun h => hx h.1)]
    have g120 := eqf 120 (fun h => hx (.inl h))
    have g88 := eqf 88 (fun h => hx (.inr h))
    cases hl : letterB (s[0]'h0) with
    | true =>
      rw [if_pos rfl]
      exact first_lw_s s h0 g120 g88 hl _ (split_s rfl (fun W _ => takeWord_any s hs W)) w hE
    | false =>
      rw [if_neg (by simp)]
      cases hd : digitB (s[0]'h0) with
      | true =>
        rw [if_pos rfl]
        cases ho : numT s.data.toList with
        | some t => exact first_nu_s s h0 g120 g88 hl hd t (split_s ho (fun W h => takeNumber_any s hs W h)) w hE
        | none => exact first_nu_n s h0 g120 g88 hl hd (split_n ho (fun W h => takeNumber_any s hs W h)) w hE
      | false =>
        rw [if_neg (by simp)]
        by_cases h39 : (s[0]'h0).toNat = 39
        · rw [if_pos h39]
          cases ho : textT s.data.toList with
          | some t => exact first_tx_s s h0 g120 g88 hl hd (eqt 39 h39) t (split_s ho (fun W _ => takeText_any s hs h0 W)) w hE
          | none => exact first_tx_n s h0 g120 g88 hl hd (eqt 39 h39) (split_n ho (fun W _ => takeText_any s hs h0 W)) w hE
        · rw [if_neg h39]
          cases ho : signT s.data.toList with
          | some t => exact first_sg_s s h0 g120 g88 hl hd (eqf 39 h39) t (split_s ho (fun W _ => takeSign_any s hs h0 W)) w hE
          | none => exact first_sg_n s h0 g120 g88 hl hd (eqf 39 h39) (split_n ho (fun W _ => takeSign_any s hs h0 W)) w hE
end Go.Proofs.YtokkbipdkakenaaGreatDoor
