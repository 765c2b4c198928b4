/- LexAgain: the law's own body answers true. -/
import Derived.Test.YtokkbipdkakenaaDoorBO
import Derived.Test.YtokkbipdkakenaaDoorBM
namespace Go.Proofs.YtokkbipdkakenaaDoor
open Go.RowKit

theorem lex_some (s : ByteArray) (w : World) (hE : Env w) : Calls Tryd.prog 7 #[.string s] w fun e w' => ∃ v u, e = .returned (.tuple #[v, u]) ∧ Below w.heap.size w w' := by
  refine (lex_any s w hE).mono ?_
  rintro e w' ⟨hb, ⟨us, A, cap, he, _⟩ | ⟨N, p, he, _⟩⟩
  · exact ⟨_, _, he, hb⟩
  · exact ⟨_, _, he, hb⟩
theorem again_none (s : ByteArray) (h : ¬ ∃ ts, LexL s.data.toList ts) (hb : s.size ≤ 400) (w : World) (hE : Env w) : Calls Tryd.prog 4 #[.string s] w (Ans (.bool true) w) := by
  have HL := Lib.hid (lex_bad h w hE)
  have HE := Lib.hid hE
  have HAL := Lib.hid (fun W (h : Env W) => alive16_any W h)
  have hbi : ¬ (400 : Int) < (s.size : Int) := by omega
  clear h hE hb
  go_enter Tryd.func4, Tryd.ntmps4
  go_wp2_with (first
    | (go_at_call 7; refine HL.out.mono ?_; rintro e w2 ⟨N, rfl, hb⟩; have HB := Lib.hid hb; clear hb)
    | (go_at_call 8; refine (HAL.out _ (HE.out.below HB.out)).mono ?_; rintro e w3 ⟨rfl, hb⟩; have HB := Lib.hid (HB.out.trans (hb.mono HB.out.size)); clear hb))
  go_ret
  exact ⟨rfl, HB.out⟩
theorem again_long (s : ByteArray) (hb : 400 < s.size) (w : World) (hE : Env w) : Calls Tryd.prog 4 #[.string s] w (Ans (.bool true) w) := by
  have HL := Lib.hid (lex_some s w hE)
  have HE := Lib.hid hE
  have HAL := Lib.hid (fun W (h : Env W) => alive16_any W h)
  have hbi : (400 : Int) < (s.size : Int) := by omega
  clear hE hb
  go_enter Tryd.func4, Tryd.ntmps4
  go_wp2_with (first
    | (go_at_call 7; refine HL.out.mono ?_; rintro e w2 ⟨v, u, rfl, hb⟩; have HB := Lib.hid hb; clear hb)
    | (go_at_call 8; refine (HAL.out _ (HE.out.below HB.out)).mono ?_; rintro e w3 ⟨rfl, hb⟩; have HB := Lib.hid (HB.out.trans (hb.mono HB.out.size)); clear hb))
  go_ret
  exact ⟨rfl, HB.out⟩
theorem joinT_take (ts : List Tok) (i : Nat) : (joinT (ts.take i)).length ≤ (joinT ts).length := by
  induction ts generalizing i with
  | nil => simp
  | cons t ts ih =>
    cases i with
    | zero => simp [joinT]
    | succ i =>
      have := ih i
      simp [joinT]; omega
def AGL (ts : List Tok) (v5 v6 : Value) : Prop := ∃ (i : Nat) (S : ByteArray), v5 = .string S ∧ v6 = .int .i64 (i : Int) ∧ S.data.toList = joinT (ts.take i) ∧ i ≤ ts.length
def AGW (w3 : World) (n : Nat) (v9 : Value) (wr : World) : Prop := ∃ k : Nat, v9 = .int .i64 (k : Int) ∧ k ≤ n ∧ Below w3.heap.size w3 wr
theorem key_at {us ts : List Tok} (h : us.map Tok.key = ts.map Tok.key) {i : Nat} {t : Tok} (ht : ts[i]? = some t) : ∃ u, us[i]? = some u ∧ u.k = t.k ∧ u.t = t.t ∧ u.x = t.x := by
  have h1 := congrArg (·[i]?) h
  simp only [List.getElem?_map, ht, Option.map_some] at h1
  obtain ⟨u, hu, hk⟩ := Option.map_eq_some_iff.1 h1
  unfold Tok.key at hk
  injection hk with h1 h2
  injection h2 with h2 h3
  exact ⟨u, hu, h1, h2, h3⟩
set_option maxRecDepth 100000 in
set_option maxHeartbeats 16000000 in
theorem again_some (s : ByteArray) (ts : List Tok) (h : LexL s.data.toList ts) (hb : s.size ≤ 400) (w : World) (hE : Env w) : Calls Tryd.prog 4 #[.string s] w (Ans (.bool true) w) := by
  have HL := Lib.hid (lex_known h w hE)
  have HE := Lib.hid hE
  have HAL := Lib.hid (fun W (h : Env W) => alive16_any W h)
  obtain ⟨us, hk, hu⟩ := LexL_again h (by rw [size_list']; exact hb)
  have hlen : us.length = ts.length := by have := congrArg List.length hk; simpa using this
  have hJ : (joinT ts).length ≤ 1000 := hu.1
  have HJ : Hid (∀ i, (joinT (ts.take i)).length ≤ 1000) := Lib.hid fun i => Nat.le_trans (joinT_take ts i) hJ
  have HL2 : Hid (∀ (S : ByteArray) W, Env W → S.data.toList = joinT ts → Calls Tryd.prog 7 #[.string S] W fun e w' => ∃ A cap, e = .returned (.tuple #[.slice A ts.length cap, .nilIface]) ∧ Below W.heap.size W w' ∧ RdT w' w'.heap.size A us) := Lib.hid fun S W hW hS => by
    refine (lex_known (s := S) (ts := us) (by rw [hS]; exact hu) W hW).mono ?_
    rintro e w' ⟨A, cap, he, hb, hr, _⟩
    exact ⟨A, cap, by rw [← hlen]; exact he, hb, hr⟩
  have hts := h.2.len
  have hsl := size_list' s
  rw [List.length_drop, hsl] at hts
  have htsi : (ts.length : Int) ≤ 1001 := by omega
  have hbi : ¬ (400 : Int) < (s.size : Int) := by omega
  have HTX : Hid (∀ (i : Nat) (t : Tok), ts[i]? = some t → t.t.length ≤ 1000) := Lib.hid fun i t ht => by
    have h1 := HJ.out (i + 1)
    have h2 : ts.take (i + 1) = ts.take i ++ [t] := by
      obtain ⟨hi, rfl⟩ := List.getElem?_eq_some_iff.1 ht
      rw [List.take_succ_eq_append_getElem hi]
    rw [h2, joinT_snoc] at h1
    simp at h1; omega
  have HSN : Hid (∀ (i : Nat) (t : Tok) (S : ByteArray), ts[i]? = some t → S.data.toList = joinT (ts.take i) → ((S ++ ⟨t.t.toArray⟩) ++ (⟨#[32]⟩ : ByteArray)).data.toList = joinT (ts.take (i + 1))) := Lib.hid fun i t S ht hS => by
    have h2 : ts.take (i + 1) = ts.take i ++ [t] := by
      obtain ⟨hi, rfl⟩ := List.getElem?_eq_some_iff.1 ht
      rw [List.take_succ_eq_append_getElem hi]
    rw [h2, joinT_snoc, cat_list, cat_list, hS]
    simp
  have HK := Lib.hid hk
  have HAG0 : Hid (AGL ts (.string ⟨#[]⟩) (.int .i64 0)) := Lib.hid ⟨0, ⟨#[]⟩, rfl, rfl, by simp [joinT], Nat.zero_le _⟩
  clear h hb hE hu hk hlen hJ hts hsl
  go_enter Tryd.func4, Tryd.ntmps4
  go_wp2_with (go_at_call 7; refine HL.out.mono ?_; rintro e w2 ⟨A, cap, rfl, hb, hr, hc⟩; have HB := Lib.hid hb; have HR := Lib.hid hr; clear hb hr hc)
  go_loop [5, 6] (fun v5 v6 => AGL ts v5 v6) (fun _ v6 => ts.length - (intOf v6).toNat)
  case atStart => exact HAG0.out
  case round =>
    obtain ⟨i, S, rfl, rfl, hS, hi⟩ := hrel
    have HS := Lib.hid hS
    have hSz : S.size ≤ 1000 := by rw [← size_list', hS]; exact HJ.out i
    clear hS
    by_cases hlt : i < ts.length
    · obtain ⟨t, ht, _⟩ := drop_at hlt
      obtain ⟨b, o, hA, c0, c1, c2, c3, c4, c5⟩ := HR.out.at_ ht
      subst hA
      have hT := HTX.out i t ht
      have hlti : (i : Int) < (ts.length : Int) := by omega
      have HN : Hid (∀ v5 v6, v5 = .string ((S ++ ⟨t.t.toArray⟩) ++ (⟨#[32]⟩ : ByteArray)) → v6 = .int .i64 ((i + 1 : Nat) : Int) → AGL ts v5 v6) := Lib.hid fun v5 v6 h5 h6 => ⟨i + 1, _, h5, h6, HSN.out i t S ht HS.out, hlt⟩
      have n1 : ¬ 9223372036854775807 < S.size + t.t.length := by omega
      have n2 : ¬ 9223372036854775807 < S.size + t.t.length + 1 := by omega
      clear ht c0 c2 c3 c4 c5 hT hSz hi hlt
      go_wp2_with fail
      go_round
      case rel => exact HN.out _ _ rfl (by go_num)
      case measure => simp [intOf]; omega
    · obtain rfl : i = ts.length := by omega
      have HSA : Hid (S.data.toList = joinT ts) := Lib.hid (by rw [HS.out, List.take_length])
      clear hlt hi hSz
      go_wp2_with (go_at_call 7; refine (HL2.out S _ (HE.out.below HB.out) HSA.out).mono ?_; rintro e w3 ⟨A3, cap3, rfl, hb, hr⟩; have HB3 := Lib.hid hb; have HR3 := Lib.hid hr; clear hb hr)
      go_loopw [9] (fun v9 wr => AGW w3 ts.length v9 wr) (fun v9 _ => ts.length - (intOf v9).toNat)
      case atStart => exact ⟨0, rfl, Nat.zero_le _, Below.refl _ _⟩
      case round =>
        obtain ⟨k, rfl, hk, hbw⟩ := hrel
        have HBW := Lib.hid hbw
        clear hbw
        by_cases hlt : k < ts.length
        · obtain ⟨t, ht, _⟩ := drop_at hlt
          obtain ⟨u, hu, hu1, hu2, hu3⟩ := key_at HK.out ht
          obtain ⟨b, o, hA, c0, c1, c2, c3, c4, c5⟩ := ((HR.out.below HB3.out (Nat.le_refl _)).below HBW.out HB3.out.size).at_ ht
          obtain ⟨b3, o3, hA3, d0, d1, d2, d3, d4, d5⟩ := (HR3.out.below HBW.out (Nat.le_refl _)).at_ hu
          subst hA hA3
          rw [hu1] at d0
          rw [hu2] at d1
          rw [hu3] at d2 d3 d4
          have hlti : (k : Int) < (ts.length : Int) := by omega
          have hk0 : 0 ≤ (k : Int) := by omega
          have HN : Hid (∀ v9 j, v9 = .int .i64 ((k + 1 : Nat) : Int) → AGW w3 ts.length v9 (wr.drewN j)) := Lib.hid fun v9 j h9 => ⟨k + 1, h9, hlt, HBW.out.trans ((drewN_below wr j).mono HBW.out.size)⟩
          clear ht hu hu1 hu2 hu3 c5 d5 hk hlt
          go_wp2_with fail
          go_quiet (fail)
          go_wp2_with fail
          go_roundw
          case rel => first | exact HN.out _ _ (by go_num) | ((repeat apply Exists.intro); exact ⟨HN.out _ _ (by go_num), rfl⟩)
          case measure => simp [intOf]; omega
        · obtain rfl : k = ts.length := by omega
          clear hlt hk
          have HBA := Lib.hid (HB.out.trans ((HB3.out.mono HB.out.size).trans (HBW.out.mono (Nat.le_trans HB.out.size HB3.out.size))))
          go_wp2_with (go_at_call 8; refine (HAL.out _ (HE.out.below HBA.out)).mono ?_; rintro e w4 ⟨rfl, hb⟩; have HB4 := Lib.hid (HBA.out.trans (hb.mono HBA.out.size)); clear hb)
          go_ret
          exact ⟨rfl, HB4.out⟩
theorem again_law (s : ByteArray) (w : World) (hE : Env w) : Calls Tryd.prog 4 #[.string s] w (Ans (.bool true) w) := by
  by_cases hb : 400 < s.size
  · exact again_long s hb w hE
  · by_cases h : ∃ ts, LexL s.data.toList ts
    · obtain ⟨ts, h⟩ := h
      exact again_some s ts h (by omega) w hE
    · exact again_none s h (by omega) w hE
end Go.Proofs.YtokkbipdkakenaaDoor
