/- LexPlaces: the law's own body answers true. -/
import Derived.Test.YtokkbipdkakenaaDoorBL
namespace Go.Proofs.YtokkbipdkakenaaDoor
open Go.RowKit

def PLI (w2 : World) (l : List UInt8) (ts : List Tok) (v5 v6 : Value) (wr : World) : Prop := ∃ i at_ : Nat, v5 = .int .i64 (at_ : Int) ∧ v6 = .int .i64 (i : Int) ∧ i ≤ ts.length ∧ Pl l at_ (ts.drop i) ∧ at_ ≤ l.length ∧ Below w2.heap.size w2 wr
def BLI (a b : Nat) (v : Value) : Prop := ∃ k : Nat, v = .int .i64 (k : Int) ∧ a ≤ k ∧ k ≤ b
theorem Pl.le {l : List UInt8} {at_ : Nat} {ts : List Tok} (h : Pl l at_ ts) : at_ ≤ l.length := by
  cases ts with
  | nil => exact Nat.le_of_eq h
  | cons t ts => have h1 := h.1; have h2 := h.2.1; omega
theorem drop_at {ts : List Tok} {i : Nat} (h : i < ts.length) : ∃ t, ts[i]? = some t ∧ ts.drop i = t :: ts.drop (i + 1) :=
  ⟨ts[i], List.getElem?_eq_getElem h, List.drop_eq_getElem_cons h⟩
theorem places_none (s : ByteArray) (h : ¬ ∃ ts, LexL s.data.toList ts) (w : World) (hE : Env w) : Calls Tryd.prog 3 #[.string s] w (Ans (.bool true) w) := by
  have HL := Lib.hid (lex_bad h w hE)
  have HE := Lib.hid hE
  have HAL := Lib.hid (fun W (h : Env W) => alive16_any W h)
  clear h hE
  by_cases hb : 1200 < s.size
  · have hbi : (1200 : Int) < (s.size : Int) := by omega
    clear hb
    go_enter Tryd.func3, Tryd.ntmps3
    go_wp2_with (first
      | (go_at_call 7; refine HL.out.mono ?_; rintro e w2 ⟨N, rfl, hb⟩; have HB := Lib.hid hb; clear hb)
      | (go_at_call 8; refine (HAL.out _ (HE.out.below HB.out)).mono ?_; rintro e w3 ⟨rfl, hb⟩; have HB := Lib.hid (HB.out.trans (hb.mono HB.out.size)); clear hb))
    go_ret
    exact ⟨rfl, HB.out⟩
  · have hbi : ¬ (1200 : Int) < (s.size : Int) := by omega
    clear hb
    go_enter Tryd.func3, Tryd.ntmps3
    go_wp2_with (first
      | (go_at_call 7; refine HL.out.mono ?_; rintro e w2 ⟨N, rfl, hb⟩; have HB := Lib.hid hb; clear hb)
      | (go_at_call 8; refine (HAL.out _ (HE.out.below HB.out)).mono ?_; rintro e w3 ⟨rfl, hb⟩; have HB := Lib.hid (HB.out.trans (hb.mono HB.out.size)); clear hb))
    go_ret
    exact ⟨rfl, HB.out⟩
theorem blank_4 {c : UInt8} (h : blankB c = true) : c.toNat = 32 ∨ c.toNat = 9 ∨ c.toNat = 10 ∨ c.toNat = 13 := by
  unfold blankB at h; simp at h; omega
set_option maxRecDepth 100000 in
set_option maxHeartbeats 16000000 in
theorem places_some (s : ByteArray) (ts : List Tok) (h : LexL s.data.toList ts) (w : World) (hE : Env w) : Calls Tryd.prog 3 #[.string s] w (Ans (.bool true) w) := by
  have HL := Lib.hid (lex_known h w hE)
  have HE := Lib.hid hE
  have HAL := Lib.hid (fun W (h : Env W) => alive16_any W h)
  have hPl := Pl_lex h
  obtain ⟨l, hl⟩ : ∃ l, l = s.data.toList := ⟨_, rfl⟩
  have hsl := size_list' s
  have HAT : Hid (∀ (k : Nat) (hk : k < s.size), l[k]? = some (s[k]'hk)) := Lib.hid fun k hk => by rw [hl]; exact byte_at s k hk
  rw [← hl] at hPl hsl
  have hs1 : s.size ≤ 1000 := by rw [← hsl, hl]; exact h.1
  have hsi : (s.size : Int) ≤ 1000 := by omega
  have HSL := Lib.hid hsl
  have HPl := Lib.hid hPl
  have HTN : Hid (0 < ts.length) := Lib.hid (List.length_pos_iff.2 h.2.ne)
  have hts := h.2.len
  rw [List.length_drop, ← hl] at hts
  have htsi : (ts.length : Int) ≤ 1001 := by omega
  clear h hE hl hPl hts hs1 hsl
  go_enter Tryd.func3, Tryd.ntmps3
  go_wp2_with (go_at_call 7; refine HL.out.mono ?_; rintro e w2 ⟨A, cap, rfl, hb, hr, hc⟩; have HB := Lib.hid hb; have HR := Lib.hid hr; clear hb hr hc)
  go_loopw [5, 6] (fun v5 v6 wr => PLI w2 l ts v5 v6 wr) (fun _ v6 _ => ts.length - (intOf v6).toNat)
  case atStart => exact ⟨0, 0, rfl, rfl, Nat.zero_le _, HPl.out, Nat.zero_le _, Below.refl _ _⟩
  case round =>
    obtain ⟨i, at_, rfl, rfl, hi, hp, hal, hb⟩ := hrel
    have HBr := Lib.hid hb
    clear hb
    by_cases hlt : i < ts.length
    · obtain ⟨t, ht, hd⟩ := drop_at hlt
      have hd1 : ts.drop (i + 1) = [] ↔ i + 1 = ts.length := by
        constructor
        · intro e; have := congrArg List.length e; rw [List.length_drop, List.length_nil] at this; omega
        · intro e; exact List.drop_eq_nil_of_le (by omega)
      rw [hd] at hp
      obtain ⟨p1, p2, p3, p4, p5, p6⟩ := hp
      rw [hd1] at p3
      obtain ⟨b, o, hA, c0, c1, c2, c3, c4, c5⟩ := (HR.out.below HBr.out (Nat.le_refl _)).at_ ht
      subst hA
      obtain ⟨S, hS⟩ : ∃ S : ByteArray, S = ⟨t.t.toArray⟩ := ⟨_, rfl⟩
      have hSl : S.data.toList = t.t := by rw [hS]
      have hSs : S.size = t.t.length := by rw [← size_list', hSl]
      rw [← hS] at c1
      obtain ⟨K, hK⟩ : ∃ K, K = t.k := ⟨_, rfl⟩
      obtain ⟨ta, hta⟩ : ∃ ta, ta = t.a := ⟨_, rfl⟩
      rw [← hK] at c0 p3 p5
      rw [← hta] at c5 p1 p2 p4 p5 p6
      rw [← hSs] at p2 p6
      rw [HSL.out] at p2
      have HP4 := Lib.hid p4
      have HP5 : Hid (∀ (j : Nat) (hj : j < S.size) (hk : ta + j < s.size), (if K = 1 then Lib.lowerB (s[ta + j]'hk) else (s[ta + j]'hk)) = S[j]'hj) := Lib.hid fun j hj hk => p5 j _ _ (by rw [← hSl]; exact byte_at S j hj) (HAT.out _ hk)
      have HN2 : Hid (∀ W v5 v6, Below wr.heap.size wr W → v5 = .int .i64 ((ta + S.size : Nat) : Int) → v6 = .int .i64 ((i + 1 : Nat) : Int) → PLI w2 l ts v5 v6 W) := Lib.hid fun W v5 v6 hW h5 h6 => ⟨i + 1, ta + S.size, h5, h6, by omega, p6, p6.le, HBr.out.trans (hW.mono HBr.out.size)⟩
      have hlti : (i : Int) < (ts.length : Int) := by omega
      have q1 : ¬ (ta : Int) < (at_ : Int) := by omega
      have q2 : ¬ (s.size : Int) < (ta : Int) := by omega
      have q3 : ¬ (s.size : Int) < (ta : Int) + (S.size : Int) := by omega
      have hST1 : Hid (BLI at_ ta (.int .i64 (at_ : Int))) := Lib.hid ⟨at_, rfl, Nat.le_refl _, p1⟩
      have hST2 : Hid (BLI 0 S.size (.int .i64 0)) := Lib.hid ⟨0, rfl, Nat.le_refl _, Nat.zero_le _⟩
      have HP2 := Lib.hid p2
      have HLT := Lib.hid hlt
      obtain ⟨bb, hb1, hb2⟩ : ∃ bb, (K == 6) = bb ∧ ((i : Int) == (ts.length : Int) - 1) = bb := by
        by_cases h6 : K = 6
        · have := p3.1 h6
          exact ⟨true, by simpa using h6, by simp; omega⟩
        · have : ¬ i + 1 = ts.length := fun e => h6 (p3.2 e)
          exact ⟨false, by simpa using h6, beq_false_of_ne (by omega)⟩
      clear hi hal hlt ht hd hd1 p1 p2 p3 p4 p5 p6 hS hSl hSs hK hta
      cases bb
      all_goals
        go_wp2_with fail
        go_loop [8] (fun v8 => BLI at_ ta v8) (fun v8 => ta - (intOf v8).toNat)
        case atStart => exact hST1.out
        case round =>
          obtain ⟨k, rfl, hk1, hk2⟩ := hrel
          by_cases hkt : k < ta
          · have hks : k < s.size := by have := HP2.out; omega
            have hkti : (k : Int) < (ta : Int) := by omega
            have hksi : (k : Int) < (s.size : Int) := by omega
            have hc4 := blank_4 (HP4.out k hk1 hkt _ (HAT.out k hks))
            have HN : Hid (∀ v8, v8 = .int .i64 ((k + 1 : Nat) : Int) → BLI at_ ta v8) := Lib.hid fun v8 h8 => ⟨k + 1, h8, by omega, by omega⟩
            clear hk1 hk2
            rcases hc4 with e | e | e | e
            all_goals
              have e2 := congrArg (fun (n : Nat) => (n : Int)) e
              simp only [Int.cast_ofNat_Int] at e2
              clear e
              go_wp2_with fail
              go_round
              case rel => exact HN.out _ (by go_num)
              case measure => simp [intOf]; omega
          · obtain rfl : k = ta := by omega
            clear hk1 hk2 hkt
            go_wp2_with fail
            go_loop [9] (fun v9 => BLI 0 S.size v9) (fun v9 => S.size - (intOf v9).toNat)
            case atStart => exact hST2.out
            case round =>
              obtain ⟨j, rfl, _, hj⟩ := hrel
              by_cases hjt : j < S.size
              · have hjs : k + j < s.size := by have := HP2.out; omega
                have hjti : (j : Int) < (S.size : Int) := by omega
                have hjsi : (k : Int) + (j : Int) < (s.size : Int) := by omega
                have h5 := HP5.out j hjt hjs
                have HN : Hid (∀ v9, v9 = .int .i64 ((j + 1 : Nat) : Int) → BLI 0 S.size v9) := Lib.hid fun v9 h9 => ⟨j + 1, h9, Nat.zero_le _, hjt⟩
                clear hj
                by_cases hK1 : K = 1
                · have hk1 : (K == 1) = true := by simpa using hK1
                  rw [if_pos hK1] at h5
                  have HLW := Lib.hid (low_any (s[k + j]'hjs))
                  rw [h5] at HLW
                  clear hK1 h5
                  go_wp2_with (go_at_call 9; refine (HLW.out _).mono ?_; rintro e w4 ⟨rfl, rfl⟩)
                  go_round
                  case rel => exact HN.out _ (by go_num)
                  case measure => simp [intOf]; omega
                · have hk1 : (K == 1) = false := by simpa using hK1
                  rw [if_neg hK1] at h5
                  have hz : (((s[k + j]'hjs).toNat : Int) == ((S[j]'hjt).toNat : Int)) = true := by rw [h5]; simp
                  have hz2 : (((s[k + j]'hjs).toNat : Int) != ((S[j]'hjt).toNat : Int)) = false := by rw [h5]; simp
                  clear hK1 h5
                  go_wp2_with fail
                  go_round
                  case rel => exact HN.out _ (by go_num)
                  case measure => simp [intOf]; omega
              · obtain rfl : j = S.size := by omega
                clear hj hjt
                go_wp2_with fail
                go_roundw
                case rel => first | exact HN2.out _ _ _ (alloc_below _ _) (by go_num) (by go_num) | ((repeat apply Exists.intro); exact ⟨HN2.out _ _ _ (alloc_below _ _) (by go_num) (by go_num), rfl⟩)
                case measure => simp [intOf]; have := HLT.out; omega
    · obtain rfl : i = ts.length := by omega
      have hz : at_ = s.size := by
        rw [List.drop_length] at hp
        have : at_ = l.length := hp
        rw [this, HSL.out]
      have hzi : ((at_ : Int) == (s.size : Int)) = true := by rw [hz]; simp
      clear hi hp hal hlt hz
      go_wp2_with (go_at_call 8; refine (HAL.out _ (HE.out.below (HB.out.trans (HBr.out.mono HB.out.size)))).mono ?_; rintro e w3 ⟨rfl, hb⟩; have HB3 := Lib.hid ((HB.out.trans (HBr.out.mono HB.out.size)).trans (hb.mono (HB.out.trans (HBr.out.mono HB.out.size)).size)); clear hb)
      go_ret
      exact ⟨rfl, HB3.out⟩
theorem places_law (s : ByteArray) (w : World) (hE : Env w) : Calls Tryd.prog 3 #[.string s] w (Ans (.bool true) w) := by
  by_cases h : ∃ ts, LexL s.data.toList ts
  · obtain ⟨ts, h⟩ := h
    exact places_some s ts h w hE
  · exact places_none s h w hE
end Go.Proofs.YtokkbipdkakenaaDoor
