/- Package lex: texts. -/
import Derived.Test.YtokkbipdkakenaaGreatDoorBV
import Derived.Test.YtokkbipdkakenaaGreatDoorBD
namespace Go.Proofs.YtokkbipdkakenaaGreatDoor
open Go.RowKit

theorem drop_cons (s : ByteArray) (i : Nat) (h : i < s.size) : s.data.toList.drop i = (s[i]'h) :: s.data.toList.drop (i + 1) := by
  have h2 : i < s.data.toList.length := by rw [size_list']; exact h
  rw [List.drop_eq_getElem_cons h2]
  congr 1
theorem quotL_other (c : UInt8) (r : List UInt8) (h : c.toNat ≠ 39) : quotL (c :: r) = (quotL r).map (fun x => (c :: x.1, x.2 + 1)) := by
  conv => lhs; unfold quotL
  rw [if_neg h]
theorem quotL_two (c d : UInt8) (r : List UInt8) (h : c.toNat = 39) (h2 : d.toNat = 39) : quotL (c :: d :: r) = (quotL r).map (fun x => (c :: x.1, x.2 + 2)) := by
  conv => lhs; unfold quotL
  rw [if_pos h]
  simp only
  rw [if_pos h2]
def TXL (w : World) (s : ByteArray) (v5 : Value) (wr : World) : Prop := ∃ (i : Nat) (out : List UInt8), v5 = .int .i64 (i : Int) ∧ 1 ≤ i ∧ i ≤ s.size ∧ out.length ≤ i ∧
  quotL (s.data.toList.drop 1) = (quotL (s.data.toList.drop i)).map (fun x => (out ++ x.1, x.2 + (i - 1))) ∧ TB w out wr
theorem map_map2 (o : Option (List UInt8 × Nat)) (out : List UInt8) (c : UInt8) (a b d : Nat) (h : b + a = d) : (o.map (fun x => (c :: x.1, x.2 + a))).map (fun x => (out ++ x.1, x.2 + b)) = o.map (fun x => ((out ++ [c]) ++ x.1, x.2 + d)) := by
  cases o with
  | none => rfl
  | some x => simp; omega
theorem begins_39 (s : ByteArray) (n : Nat) (w : World) : Calls Tryz.prog 27 #[.string (s.extract n s.size), .int .u8 39] w fun e w' => e = .returned (.bool (headIs 39 (s.data.toList.drop n))) ∧ w = w' := by
  have := begins_any (s.extract n s.size) 39 w
  rwa [ext_list, ← size_list' s, List.take_length] at this
def txT (l : List UInt8) (e : Nat) (out : List UInt8) : Tok := ⟨3, l.take e, (4, 0, out), 0⟩
theorem txT_val (s : ByteArray) (e : Nat) (out : List UInt8) : (txT s.data.toList e out).v = .agg #[.int .i64 3, .string (s.extract 0 e), .int .i64 4, .int .i64 0, .string ⟨out.toArray⟩, .int .i64 0] := by
  unfold txT Tok.v
  rw [ext_of s 0 e, List.drop_zero]
  rfl
set_option maxRecDepth 100000 in
set_option maxHeartbeats 8000000 in
theorem takeText_any (s : ByteArray) (hs : s.size ≤ 1000) (h0 : 0 < s.size) (w : World) : Calls Tryz.prog 33 #[.string s] w (TkR (textT s.data.toList) w) := by
  have HST : Hid (TXL w s (.int .i64 1) ((w.alloc (.cells #[.int .i64 0, .string ⟨#[]⟩, .int .i64 0, .int .i64 0, .string ⟨#[]⟩, .int .i64 0] 35)).alloc (.cells #[.pointer none, .slice none 0 0] 72))) := Lib.hid ⟨1, [], rfl, Nat.le_refl _, h0, by simp, by
    cases quotL (s.data.toList.drop 1) <;> simp, TB.start w⟩
  have hsi : (s.size : Int) ≤ 1000 := by omega
  have HSL := Lib.hid (size_list' s)
  have HS0 := Lib.hid hs
  clear hs h0
  go_enter Tryz.func33, Tryz.ntmps33
  go_wp2_with fail
  go_loopw [5] (fun v5 wr => TXL w s v5 wr) (fun v5 _ => s.size - (intOf v5).toNat)
  case atStart => exact HST.out
  case round =>
    obtain ⟨i, out, rfl, h1, hi, ho, hq, ht⟩ := hrel
    have HQ := Lib.hid hq
    have HTB := Lib.hid ht
    have HO := Lib.hid ho
    have H1 := Lib.hid h1
    clear hq ht ho h1
    by_cases hlt : i < s.size
    · have hlti : (i : Int) < (s.size : Int) := by omega
      have HD := Lib.hid (drop_cons s i hlt)
      have HL1 := Lib.hid (Nat.le_trans HO.out (by have := HS0.out; omega : i ≤ 100000))
      clear hi
      by_cases hc : (s[i]'hlt).toNat = 39
      · have hz : (((s[i]'hlt).toNat : Int) == 39) = true := by rw [hc]; rfl
        have HBG := Lib.hid (fun W => begins_39 s (i + 1) W)
        have hi1 : (i : Int) + 1 ≤ (s.size : Int) := by omega
        have hi0 : (0 : Int) ≤ (i : Int) + 1 := by omega
        cases hb : headIs 39 (s.data.toList.drop (i + 1)) with
        | true =>
          rw [hb] at HBG
          have hlt2 : i + 1 < s.size := by have := headIs_drop _ _ _ hb; rw [HSL.out] at this; exact this
          have hlt2i : (i : Int) + 1 < (s.size : Int) := by omega
          have HN : Hid (∀ v5 W, v5 = .int .i64 ((i + 2 : Nat) : Int) → TB w (out ++ [s[i + 1]'hlt2]) W → TXL w s v5 W) := Lib.hid fun v5 W h5 hW => by
            have hd := drop_cons s (i + 1) hlt2
            have hd39 : (s[i + 1]'hlt2).toNat = 39 := by rw [hd] at hb; simpa [headIs] using hb
            have hcd : s[i]'hlt = s[i + 1]'hlt2 := UInt8.toNat_inj.1 (by rw [hc, hd39])
            refine ⟨i + 2, _, h5, by omega, by omega, by have := HO.out; simp; omega, ?_, hW⟩
            rw [HQ.out, HD.out, hd]
            rw [quotL_two _ _ _ hc hd39, hcd, map_map2 _ _ _ _ _ _ (by have := H1.out; omega : i - 1 + 2 = i + 2 - 1)]
          clear hb hc
          go_wp2_with (first
            | (go_at_call 27; refine (HBG.out _).mono ?_; rintro e w2 ⟨rfl, rfl⟩)
            | (go_at_call 52; refine (writeByte_any w out (s[i + 1]'hlt2) _ HTB.out HL1.out).mono ?_; rintro e w2 ⟨rfl, ht⟩; have HTB := Lib.hid ht; clear ht))
          go_roundw
          case rel => first | exact HN.out _ _ (by go_num) HTB.out | ((repeat apply Exists.intro); exact ⟨HN.out _ _ (by go_num) HTB.out, rfl⟩)
          case measure => simp [intOf]; omega
        | false =>
          rw [hb] at HBG
          have HQ2 : Hid (quotL (s.data.toList.drop 1) = some (out, i)) := Lib.hid (by
            rw [HQ.out, HD.out]
            have hq : quotL ((s[i]'hlt) :: s.data.toList.drop (i + 1)) = some ([], 1) := by
              unfold quotL
              rw [if_pos hc]
              cases hd : s.data.toList.drop (i + 1) with
              | nil => rfl
              | cons d r =>
                rw [hd] at hb
                simp only
                rw [if_neg (by simpa [headIs] using hb)]
            rw [hq]
            have := H1.out
            simp; omega)
          have HT := Lib.hid (fun W => token_any 3 (s.extract 0 (i + 1)) 4 0 ⟨out.toArray⟩ (by rw [ext_size _ _ _ (by omega)]; have := HS0.out; omega) W)
          by_cases h2 : out.length ≤ 200
          · have h2i : (out.length : Int) ≤ 200 := by omega
            have HN : Hid (textT s.data.toList = some (txT s.data.toList (i + 1) out)) := Lib.hid (by
              unfold textT; rw [HQ2.out]; simp only; rw [if_pos h2]; rfl)
            clear hb hc h2
            go_wp2_with (first
              | (go_at_call 27; refine (HBG.out _).mono ?_; rintro e w2 ⟨rfl, rfl⟩)
              | (go_at_call 42; refine (bString_any w out _ HTB.out).mono ?_; rintro e w2 ⟨rfl, ht⟩; have HTB := Lib.hid ht; clear ht))
            go_region_law (first
              | (go_simp; go_at_call 53; refine (HT.out _).mono ?_; rintro e w3 ⟨rfl, hb⟩
                 have HTB := Lib.hid ((HTB.out.next (alloc_below _ _)).next_d hb)
                 obtain ⟨r0, r1, r2, r3, r4, r5⟩ := box6 HTB.out.bx.box
                 have z0 := frozen_b HTB.out.bx.box 0
                 have z1 := frozen_b HTB.out.bx.box 1
                 have z2 := frozen_b HTB.out.bx.box 2
                 have z3 := frozen_b HTB.out.bx.box 3
                 have z4 := frozen_b HTB.out.bx.box 4
                 have z5 := frozen_b HTB.out.bx.box 5
                 clear hb)
              | (go_simp; go_at_call 41; refine (bLen_any w out _ HTB.out).mono ?_; rintro e w3 ⟨rfl, rfl⟩)
              | (go_simp; go_at_call 41; refine (bLen_any w out _ (HTB.out.next (alloc_below _ _)).drew).mono ?_; rintro e w3 ⟨rfl, rfl⟩))
            all_goals
              go_wp2_with fail
              exact bodyPost_ret (v := .tuple #[.agg #[.int .i64 3, .string (s.extract 0 (i + 1)), .int .i64 4, .int .i64 0, .string ⟨out.toArray⟩, .int .i64 0], .bool true]) (by simp [results, Tryz.results33, go_sem, r0, r1, r2, r3, r4, r5]) rfl (TkR.ok HN.out (txT_val s _ out) (set6_below HTB.out.bx.bel (by omega) _ _ _ _ _ _))
          · have h2i : ¬ (out.length : Int) ≤ 200 := by omega
            have HN : Hid (textT s.data.toList = none) := Lib.hid (by
              unfold textT; rw [HQ2.out]; simp only; rw [if_neg h2])
            clear hb hc h2
            go_wp2_with (first
              | (go_at_call 27; refine (HBG.out _).mono ?_; rintro e w2 ⟨rfl, rfl⟩)
              | (go_at_call 42; refine (bString_any w out _ HTB.out).mono ?_; rintro e w2 ⟨rfl, ht⟩; have HTB := Lib.hid ht; clear ht))
            go_region_law (first
              | (go_simp; go_at_call 53; refine (HT.out _).mono ?_; rintro e w3 ⟨rfl, hb⟩
                 have HTB := Lib.hid ((HTB.out.next (alloc_below _ _)).next_d hb)
                 obtain ⟨r0, r1, r2, r3, r4, r5⟩ := box6 HTB.out.bx.box
                 have z0 := frozen_b HTB.out.bx.box 0
                 have z1 := frozen_b HTB.out.bx.box 1
                 have z2 := frozen_b HTB.out.bx.box 2
                 have z3 := frozen_b HTB.out.bx.box 3
                 have z4 := frozen_b HTB.out.bx.box 4
                 have z5 := frozen_b HTB.out.bx.box 5
                 clear hb)
              | (go_simp; go_at_call 41; refine (bLen_any w out _ HTB.out).mono ?_; rintro e w3 ⟨rfl, rfl⟩)
              | (go_simp; go_at_call 41; refine (bLen_any w out _ (HTB.out.next (alloc_below _ _)).drew).mono ?_; rintro e w3 ⟨rfl, rfl⟩))
            all_goals
              go_wp2_with fail
              exact bodyPost_ret (v := .tuple #[.agg #[.int .i64 3, .string (s.extract 0 (i + 1)), .int .i64 4, .int .i64 0, .string ⟨out.toArray⟩, .int .i64 0], .bool false]) (by simp [results, Tryz.results33, go_sem, r0, r1, r2, r3, r4, r5, h2i]) rfl (TkR.no HN.out (txT_val s (i + 1) out) (set6_below HTB.out.bx.bel (by omega) _ _ _ _ _ _))
      · have hz : (((s[i]'hlt).toNat : Int) == 39) = false := beq_false_of_ne (by omega)
        have HN : Hid (∀ v5 W, v5 = .int .i64 ((i + 1 : Nat) : Int) → TB w (out ++ [s[i]'hlt]) W → TXL w s v5 W) := Lib.hid fun v5 W h5 hW => by
          refine ⟨i + 1, _, h5, by omega, by omega, by have := HO.out; simp; omega, ?_, hW⟩
          rw [HQ.out, HD.out]
          rw [quotL_other _ _ hc, map_map2 _ _ _ _ _ _ (by have := H1.out; omega : i - 1 + 1 = i + 1 - 1)]
        clear hc
        go_wp2_with (go_at_call 52; refine (writeByte_any w out (s[i]'hlt) _ HTB.out HL1.out).mono ?_; rintro e w2 ⟨rfl, ht⟩; have HTB := Lib.hid ht; clear ht)
        go_roundw
        case rel => first | exact HN.out _ _ (by go_num) HTB.out | ((repeat apply Exists.intro); exact ⟨HN.out _ _ (by go_num) HTB.out, rfl⟩)
        case measure => simp [intOf]; omega
    · obtain rfl : i = s.size := by omega
      have HN : Hid (textT s.data.toList = none) := Lib.hid (by
        unfold textT
        have hd : s.data.toList.drop s.size = [] := List.drop_eq_nil_of_le (by rw [HSL.out]; exact Nat.le_refl _)
        rw [HQ.out, hd]; rfl)
      clear hi hlt
      obtain ⟨r0, r1, r2, r3, r4, r5⟩ := box6 HTB.out.bx.box
      have z0 := frozen_b HTB.out.bx.box 0
      have z1 := frozen_b HTB.out.bx.box 1
      have z2 := frozen_b HTB.out.bx.box 2
      have z3 := frozen_b HTB.out.bx.box 3
      have z4 := frozen_b HTB.out.bx.box 4
      have z5 := frozen_b HTB.out.bx.box 5
      go_wp2_with fail
      exact bodyPost_ret (v := .tuple #[zeroT.v, .bool false]) (by simp [results, Tryz.results33, go_sem, r0, r1, r2, r3, r4, r5, zeroT, Tok.v, noV]) rfl (TkR.no HN.out rfl (set6_below HTB.out.bx.bel (by omega) _ _ _ _ _ _))
end Go.Proofs.YtokkbipdkakenaaGreatDoor
