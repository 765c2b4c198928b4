/- NetFull: the law's own body answers true. -/
import Derived.Test.YthapjoghnhfkdaaSL
namespace Go.Proofs.Ythapjoghnhfkdaa
open Go.RowKit Go.Maps

/-- so many of one letter -/
def FullL (L : List En) (i : Nat) (l : Ltr) : Prop := L.length = i ∧ ∀ j : Nat, j < i → ∃ e, findN L (j : Int) = some e ∧ e.l = l
theorem findN_snoc {L : List En} {x : Int} {e en : En} (h : findN L x = some e) : findN (L ++ [en]) x = some e := by
  unfold findN at h ⊢
  rw [List.find?_append, h]; rfl
theorem FullL.snoc {w0 W : World} {p i t : Nat} {m : Option Nat} {L : List En} {l : Ltr} (h : FullL L i l) (hN : NetW w0 W p m L i t) (g c : Nat) : FullL (L ++ [⟨i, l, g, c⟩]) (i + 1) l := by
  refine ⟨by rw [List.length_append, h.1]; rfl, fun j hj => ?_⟩
  by_cases hji : j < i
  · obtain ⟨e, h1, h2⟩ := h.2 j hji
    exact ⟨e, findN_snoc h1, h2⟩
  · have hje : j = i := by omega
    subst hje
    refine ⟨⟨j, l, g, c⟩, ?_, rfl⟩
    have h1 := hN.net.find_new
    unfold findN at h1 ⊢
    rw [List.find?_append, h1]
    simp
/-- at the loop's head -/
def FuL (w0 : World) (p : Nat) (l : Ltr) (v10 : Value) (wr : World) : Prop := ∃ (i : Nat) (m : Option Nat) (L : List En), v10 = .int .i64 (i : Int) ∧ 1 ≤ i ∧ i ≤ 1024 ∧ NetW w0 wr p m L i 0 ∧ FullL L i l
set_option maxRecDepth 100000 in
set_option maxHeartbeats 8000000 in
theorem full_wrong (k f t x : Int) (hR : Ltr.right ⟨k, f, t, x, []⟩ = false) (A : Option Addr) (n cap : Nat) (y : Int) (b : Bool) (w : World) :
    Calls Try.prog 5 #[.agg #[.int .i64 k, .int .i64 f, .int .i64 t, .int .i64 x, .slice A n cap], .int .i64 y, .bool b] w (Ans (.bool true) w) := by
  have HX := Lib.hid (law_box w ⟨k, f, t, x, []⟩ none 0 0 (RdI.nil _ _ _))
  have H1 := Lib.hid (NetW.new_box w ⟨k, f, t, x, []⟩ none 0 0)
  have hx := HX.out _ H1.out.bel
  obtain ⟨x0, x1, x2, x3, x4⟩ := box5 hx.1
  have HS := Lib.hid (fun W p => send_wrong (p := p) ⟨k, f, t, x, []⟩ hR none 0 0 rfl (by omega) W (RdI.nil _ _ _))
  clear hx hR
  unfold lv netO at x0 x1 x2 x3 x4 H1
  unfold lv at HX
  simp only at *
  go_enter Try.func5, Try.ntmps5
  go_wp2_with (first
    | (go_at_call 9; refine (new_any _).mono ?_; unfold netO; rintro e w1 ⟨rfl, rfl⟩)
    | (go_at_call 10; refine (HS.out _ _).mono ?_; rintro e w2 ⟨rfl, hb⟩
       have H2 := Lib.hid (H1.out.below hb)
       clear hb)
    | (go_at_call 26; refine (aliveN_any _).mono ?_; rintro e w3 ⟨rfl, hb⟩
       have H3 := Lib.hid (HX.out _ (H2.out.below hb).bel).2.2
       clear hb))
  go_ret
  exact ⟨rfl, H3.out⟩
set_option maxRecDepth 100000 in
set_option maxHeartbeats 16000000 in
theorem full_neg_lose (k f t x : Int) (hR : Ltr.right ⟨k, f, t, x, []⟩ = true) (A : Option Addr) (n cap : Nat) (y : Int) (hy : y < 0) (hy2 : -9223372036854775808 ≤ y) (w : World) :
    Calls Try.prog 5 #[.agg #[.int .i64 k, .int .i64 f, .int .i64 t, .int .i64 x, .slice A n cap], .int .i64 y, .bool true] w (Ans (.bool true) w) := by
  have HX := Lib.hid (law_box w ⟨k, f, t, x, []⟩ none 0 0 (RdI.nil _ _ _))
  have H1 := Lib.hid (NetW.new_box w ⟨k, f, t, x, []⟩ none 0 0)
  have hx := HX.out _ H1.out.bel
  obtain ⟨x0, x1, x2, x3, x4⟩ := box5 hx.1
  obtain ⟨l, hl⟩ : ∃ l : Ltr, l = ⟨k, f, t, x, []⟩ := ⟨_, rfl⟩
  have HS : Hid (∀ W p m L s t', NetAt W p m L s t' → L.length < 1024 → s < 100000 → Calls Try.prog 10 #[.pointer (some ⟨p, 0, none⟩), .agg #[.int .i64 k, .int .i64 f, .int .i64 t, .int .i64 x, .slice none 0 0]] W (PutT W p m L s t' l)) := Lib.hid (fun W p m L s t' hN h1 h2 => by
    have := send_yes hN h1 h2 ⟨k, f, t, x, []⟩ hR none 0 0 rfl (by omega) (RdI.nil _ _ _)
    rw [hl]
    exact this)
  have HF : Hid (∀ W p m L s, NetAt W p m L s 0 → L.length = 1024 → Calls Try.prog 10 #[.pointer (some ⟨p, 0, none⟩), .agg #[.int .i64 k, .int .i64 f, .int .i64 t, .int .i64 x, .slice none 0 0]] W (NoT W (.tuple #[.int .i64 0, .int .i64 62]))) := Lib.hid (fun W p m L s hN h1 => send_full hN h1 ⟨k, f, t, x, []⟩ hR none 0 0 rfl (by omega) (RdI.nil _ _ _))
  clear hx hR
  unfold PutT at HS
  unfold lv netO at x0 x1 x2 x3 x4 H1
  unfold lv at HX
  simp only at *
  have hw1 : wrap64 (y + 1) = y + 1 := by unfold wrap64; omega
  obtain ⟨R, hRt, hR1⟩ : ∃ R : Nat, (y + 1).tmod 1024 = -(R : Int) ∧ R < 1024 := ⟨(-(y + 1)).toNat % 1024, by
    have h1 : (y + 1).tmod 1024 = -((-(y + 1)).tmod 1024) := by rw [Int.neg_tmod, Int.neg_neg]
    rw [h1, Int.tmod_eq_emod_of_nonneg (by omega)]
    omega, Nat.mod_lt _ (by decide)⟩
  have HL := Lib.hid hl
  clear hl
  go_enter Try.func5, Try.ntmps5
  go_wp2_with (first
    | (go_at_call 9; refine (new_any _).mono ?_; unfold netO; rintro e w1 ⟨rfl, rfl⟩)
    | (go_at_call 10; refine (HS.out _ _ _ _ _ _ H1.out.net (by simp) (by omega)).mono ?_; rintro e w2 ⟨rfl, hp⟩
       obtain ⟨m2, g2, c2, h2⟩ := H1.out.put hp
       have HST := Lib.hid (show FuL _ _ l (.int .i64 1) w2 from ⟨1, m2, _, rfl, Nat.le_refl _, by omega, h2, FullL.snoc (i := 0) ⟨rfl, fun j hj => by omega⟩ H1.out g2 c2⟩)
       clear hp h2 H1 x0 x1 x2 x3 x4))
  go_loopw [10] (fun v10 wr => FuL (w.alloc (.cells #[.int .i64 k, .int .i64 f, .int .i64 t, .int .i64 x, .slice none 0 0] 32)) (w.heap.size + 1) l v10 wr) (fun v10 _ => 1024 - (intOf v10).toNat)
  case atStart => exact HST.out
  case round =>
    obtain ⟨i, m, L, rfl, hi1, hi2, hN, hF⟩ := hrel
    have HN := Lib.hid hN
    have HFu := Lib.hid hF
    have hii : (i : Int) ≤ 1024 := by omega
    clear hN hF
    by_cases hlt : i < 1024
    · have hlti : (i : Int) < 1024 := by omega
      obtain ⟨e0, he0, hel⟩ := HFu.out.2 0 (by omega)
      have HT := Lib.hid (twice_yes HN.out.net (by rw [HFu.out.1]; exact hlt) (by omega) (x := 0) (by unfold i64ok; omega) he0)
      rw [hel] at HT
      unfold PutT at HT
      clear he0 hel hi1 hi2
      go_wp2_with (go_at_call 17; refine HT.out.mono ?_; rintro e w2 ⟨rfl, hp⟩
                   obtain ⟨m2, g2, c2, h2⟩ := HN.out.put hp
                   have HZ : Hid (∀ v10, v10 = .int .i64 ((i + 1 : Nat) : Int) → FuL _ _ l v10 w2) := Lib.hid fun v10 h10 => ⟨i + 1, m2, _, h10, by omega, by omega, h2, HFu.out.snoc HN.out g2 c2⟩
                   clear hp h2)
      go_roundw
      case rel => first | exact HZ.out _ (by go_num) | ((repeat apply Exists.intro); exact ⟨HZ.out _ (by go_num), rfl⟩)
      case measure => simp [intOf]; omega
    · have hie : i = 1024 := by omega
      subst hie
      obtain ⟨x0, x1, x2, x3, x4⟩ := box5 (HX.out _ HN.out.bel).1
      obtain ⟨eR, heR, helR⟩ := HFu.out.2 R hR1
      have hx64 : i64ok (R : Int) := by unfold i64ok; omega
      have HLE := Lib.hid (dropN_len HN.out.net.ups heR)
      clear hlt hi1 hi2 hii helR
      go_wp2_with (first
        | (go_at_call 10; have _t := HN; refine (HF.out _ _ _ _ _ HN.out.net HFu.out.1).mono ?_; rintro e w3 ⟨rfl, hb⟩
           have H3 := Lib.hid (HN.out.below hb)
           clear hb HN _t x0 x1 x2 x3 x4)
        | (go_at_call 17; have _t := H3; refine (twice_full H3.out.net HFu.out.1 (x := (R : Int)) hx64 heR).mono ?_; rintro e w6 ⟨rfl, rfl⟩
           clear _t)
        | (go_at_call 19; have _t := H3; refine (lose_yes H3.out.net (x := (R : Int)) hx64 heR).mono ?_; rintro e w4 ⟨rfl, hp⟩
           have H4 := Lib.hid (H3.out.lose hp)
           obtain ⟨x0, x1, x2, x3, x4⟩ := box5 (HX.out _ H4.out.bel).1
           clear hp H3 _t)
        | (go_at_call 10; have _t := H4; refine (HS.out _ _ _ _ _ _ H4.out.net (by have := HLE.out; have := HFu.out.1; omega) (by omega)).mono ?_; rintro e w5 ⟨rfl, hp⟩
           obtain ⟨m5, g5, c5, h5⟩ := H4.out.put hp
           have H5 := Lib.hid h5
           clear hp h5 H4 _t)
        | (go_at_call 26; refine (aliveN_any _).mono ?_; rintro e w7 ⟨rfl, hb⟩
           have HE := Lib.hid (HX.out _ (H5.out.below hb).bel).2.2
           clear hb))
      go_ret
      exact ⟨rfl, HE.out⟩
set_option maxRecDepth 100000 in
set_option maxHeartbeats 16000000 in
theorem full_neg_take (k f t x : Int) (hR : Ltr.right ⟨k, f, t, x, []⟩ = true) (A : Option Addr) (n cap : Nat) (y : Int) (hy : y < 0) (hy2 : -9223372036854775808 ≤ y) (w : World) :
    Calls Try.prog 5 #[.agg #[.int .i64 k, .int .i64 f, .int .i64 t, .int .i64 x, .slice A n cap], .int .i64 y, .bool false] w (Ans (.bool true) w) := by
  have HX := Lib.hid (law_box w ⟨k, f, t, x, []⟩ none 0 0 (RdI.nil _ _ _))
  have H1 := Lib.hid (NetW.new_box w ⟨k, f, t, x, []⟩ none 0 0)
  have hx := HX.out _ H1.out.bel
  obtain ⟨x0, x1, x2, x3, x4⟩ := box5 hx.1
  obtain ⟨l, hl⟩ : ∃ l : Ltr, l = ⟨k, f, t, x, []⟩ := ⟨_, rfl⟩
  have HS : Hid (∀ W p m L s t', NetAt W p m L s t' → L.length < 1024 → s < 100000 → Calls Try.prog 10 #[.pointer (some ⟨p, 0, none⟩), .agg #[.int .i64 k, .int .i64 f, .int .i64 t, .int .i64 x, .slice none 0 0]] W (PutT W p m L s t' l)) := Lib.hid (fun W p m L s t' hN h1 h2 => by
    have := send_yes hN h1 h2 ⟨k, f, t, x, []⟩ hR none 0 0 rfl (by omega) (RdI.nil _ _ _)
    rw [hl]
    exact this)
  have HF : Hid (∀ W p m L s, NetAt W p m L s 0 → L.length = 1024 → Calls Try.prog 10 #[.pointer (some ⟨p, 0, none⟩), .agg #[.int .i64 k, .int .i64 f, .int .i64 t, .int .i64 x, .slice none 0 0]] W (NoT W (.tuple #[.int .i64 0, .int .i64 62]))) := Lib.hid (fun W p m L s hN h1 => send_full hN h1 ⟨k, f, t, x, []⟩ hR none 0 0 rfl (by omega) (RdI.nil _ _ _))
  clear hx hR
  unfold PutT at HS
  unfold lv netO at x0 x1 x2 x3 x4 H1
  unfold lv at HX
  simp only at *
  have hw1 : wrap64 (y + 1) = y + 1 := by unfold wrap64; omega
  obtain ⟨R, hRt, hR1⟩ : ∃ R : Nat, (y + 1).tmod 1024 = -(R : Int) ∧ R < 1024 := ⟨(-(y + 1)).toNat % 1024, by
    have h1 : (y + 1).tmod 1024 = -((-(y + 1)).tmod 1024) := by rw [Int.neg_tmod, Int.neg_neg]
    rw [h1, Int.tmod_eq_emod_of_nonneg (by omega)]
    omega, Nat.mod_lt _ (by decide)⟩
  have HL := Lib.hid hl
  clear hl
  go_enter Try.func5, Try.ntmps5
  go_wp2_with (first
    | (go_at_call 9; refine (new_any _).mono ?_; unfold netO; rintro e w1 ⟨rfl, rfl⟩)
    | (go_at_call 10; refine (HS.out _ _ _ _ _ _ H1.out.net (by simp) (by omega)).mono ?_; rintro e w2 ⟨rfl, hp⟩
       obtain ⟨m2, g2, c2, h2⟩ := H1.out.put hp
       have HST := Lib.hid (show FuL _ _ l (.int .i64 1) w2 from ⟨1, m2, _, rfl, Nat.le_refl _, by omega, h2, FullL.snoc (i := 0) ⟨rfl, fun j hj => by omega⟩ H1.out g2 c2⟩)
       clear hp h2 H1 x0 x1 x2 x3 x4))
  go_loopw [10] (fun v10 wr => FuL (w.alloc (.cells #[.int .i64 k, .int .i64 f, .int .i64 t, .int .i64 x, .slice none 0 0] 32)) (w.heap.size + 1) l v10 wr) (fun v10 _ => 1024 - (intOf v10).toNat)
  case atStart => exact HST.out
  case round =>
    obtain ⟨i, m, L, rfl, hi1, hi2, hN, hF⟩ := hrel
    have HN := Lib.hid hN
    have HFu := Lib.hid hF
    have hii : (i : Int) ≤ 1024 := by omega
    clear hN hF
    by_cases hlt : i < 1024
    · have hlti : (i : Int) < 1024 := by omega
      obtain ⟨e0, he0, hel⟩ := HFu.out.2 0 (by omega)
      have HT := Lib.hid (twice_yes HN.out.net (by rw [HFu.out.1]; exact hlt) (by omega) (x := 0) (by unfold i64ok; omega) he0)
      rw [hel] at HT
      unfold PutT at HT
      clear he0 hel hi1 hi2
      go_wp2_with (go_at_call 17; refine HT.out.mono ?_; rintro e w2 ⟨rfl, hp⟩
                   obtain ⟨m2, g2, c2, h2⟩ := HN.out.put hp
                   have HZ : Hid (∀ v10, v10 = .int .i64 ((i + 1 : Nat) : Int) → FuL _ _ l v10 w2) := Lib.hid fun v10 h10 => ⟨i + 1, m2, _, h10, by omega, by omega, h2, HFu.out.snoc HN.out g2 c2⟩
                   clear hp h2)
      go_roundw
      case rel => first | exact HZ.out _ (by go_num) | ((repeat apply Exists.intro); exact ⟨HZ.out _ (by go_num), rfl⟩)
      case measure => simp [intOf]; omega
    · have hie : i = 1024 := by omega
      subst hie
      obtain ⟨x0, x1, x2, x3, x4⟩ := box5 (HX.out _ HN.out.bel).1
      obtain ⟨eR, heR, helR⟩ := HFu.out.2 R hR1
      have hx64 : i64ok (R : Int) := by unfold i64ok; omega
      have HLE := Lib.hid (dropN_len HN.out.net.ups heR)
      clear hlt hi1 hi2 hii helR
      go_wp2_with (first
        | (go_at_call 10; have _t := HN; refine (HF.out _ _ _ _ _ HN.out.net HFu.out.1).mono ?_; rintro e w3 ⟨rfl, hb⟩
           have H3 := Lib.hid (HN.out.below hb)
           clear hb HN _t x0 x1 x2 x3 x4)
        | (go_at_call 17; have _t := H3; refine (twice_full H3.out.net HFu.out.1 (x := (R : Int)) hx64 heR).mono ?_; rintro e w6 ⟨rfl, rfl⟩
           clear _t)
        | (go_at_call 15; have _t := H3; refine (take_yes H3.out.net (x := (R : Int)) hx64 heR).mono ?_; unfold TakeT; rintro e w4 ⟨A4, cap4, rfl, hp⟩
           have H4 := Lib.hid (H3.out.take hp)
           obtain ⟨x0, x1, x2, x3, x4⟩ := box5 (HX.out _ H4.out.bel).1
           clear hp H3 _t)
        | (go_at_call 10; have _t := H4; refine (HS.out _ _ _ _ _ _ H4.out.net (by have := HLE.out; have := HFu.out.1; omega) (by omega)).mono ?_; rintro e w5 ⟨rfl, hp⟩
           obtain ⟨m5, g5, c5, h5⟩ := H4.out.put hp
           have H5 := Lib.hid h5
           clear hp h5 H4 _t)
        | (go_at_call 26; refine (aliveN_any _).mono ?_; rintro e w7 ⟨rfl, hb⟩
           have HE := Lib.hid (HX.out _ (H5.out.below hb).bel).2.2
           clear hb))
      go_ret
      exact ⟨rfl, HE.out⟩
set_option maxRecDepth 100000 in
set_option maxHeartbeats 16000000 in
theorem full_pos_lose (k f t x : Int) (hR : Ltr.right ⟨k, f, t, x, []⟩ = true) (A : Option Addr) (n cap : Nat) (y : Int) (hy : ¬ y < 0) (hy2 : y ≤ 9223372036854775807) (w : World) :
    Calls Try.prog 5 #[.agg #[.int .i64 k, .int .i64 f, .int .i64 t, .int .i64 x, .slice A n cap], .int .i64 y, .bool true] w (Ans (.bool true) w) := by
  have HX := Lib.hid (law_box w ⟨k, f, t, x, []⟩ none 0 0 (RdI.nil _ _ _))
  have H1 := Lib.hid (NetW.new_box w ⟨k, f, t, x, []⟩ none 0 0)
  have hx := HX.out _ H1.out.bel
  obtain ⟨x0, x1, x2, x3, x4⟩ := box5 hx.1
  obtain ⟨l, hl⟩ : ∃ l : Ltr, l = ⟨k, f, t, x, []⟩ := ⟨_, rfl⟩
  have HS : Hid (∀ W p m L s t', NetAt W p m L s t' → L.length < 1024 → s < 100000 → Calls Try.prog 10 #[.pointer (some ⟨p, 0, none⟩), .agg #[.int .i64 k, .int .i64 f, .int .i64 t, .int .i64 x, .slice none 0 0]] W (PutT W p m L s t' l)) := Lib.hid (fun W p m L s t' hN h1 h2 => by
    have := send_yes hN h1 h2 ⟨k, f, t, x, []⟩ hR none 0 0 rfl (by omega) (RdI.nil _ _ _)
    rw [hl]
    exact this)
  have HF : Hid (∀ W p m L s, NetAt W p m L s 0 → L.length = 1024 → Calls Try.prog 10 #[.pointer (some ⟨p, 0, none⟩), .agg #[.int .i64 k, .int .i64 f, .int .i64 t, .int .i64 x, .slice none 0 0]] W (NoT W (.tuple #[.int .i64 0, .int .i64 62]))) := Lib.hid (fun W p m L s hN h1 => send_full hN h1 ⟨k, f, t, x, []⟩ hR none 0 0 rfl (by omega) (RdI.nil _ _ _))
  clear hx hR
  unfold PutT at HS
  unfold lv netO at x0 x1 x2 x3 x4 H1
  unfold lv at HX
  simp only at *
  obtain ⟨R, hRt, hR1⟩ : ∃ R : Nat, y.tmod 1024 = (R : Int) ∧ R < 1024 := ⟨y.toNat % 1024, by
    rw [Int.tmod_eq_emod_of_nonneg (by omega)]
    omega, Nat.mod_lt _ (by decide)⟩
  have HL := Lib.hid hl
  clear hl
  go_enter Try.func5, Try.ntmps5
  go_wp2_with (first
    | (go_at_call 9; refine (new_any _).mono ?_; unfold netO; rintro e w1 ⟨rfl, rfl⟩)
    | (go_at_call 10; refine (HS.out _ _ _ _ _ _ H1.out.net (by simp) (by omega)).mono ?_; rintro e w2 ⟨rfl, hp⟩
       obtain ⟨m2, g2, c2, h2⟩ := H1.out.put hp
       have HST := Lib.hid (show FuL _ _ l (.int .i64 1) w2 from ⟨1, m2, _, rfl, Nat.le_refl _, by omega, h2, FullL.snoc (i := 0) ⟨rfl, fun j hj => by omega⟩ H1.out g2 c2⟩)
       clear hp h2 H1 x0 x1 x2 x3 x4))
  go_loopw [10] (fun v10 wr => FuL (w.alloc (.cells #[.int .i64 k, .int .i64 f, .int .i64 t, .int .i64 x, .slice none 0 0] 32)) (w.heap.size + 1) l v10 wr) (fun v10 _ => 1024 - (intOf v10).toNat)
  case atStart => exact HST.out
  case round =>
    obtain ⟨i, m, L, rfl, hi1, hi2, hN, hF⟩ := hrel
    have HN := Lib.hid hN
    have HFu := Lib.hid hF
    have hii : (i : Int) ≤ 1024 := by omega
    clear hN hF
    by_cases hlt : i < 1024
    · have hlti : (i : Int) < 1024 := by omega
      obtain ⟨e0, he0, hel⟩ := HFu.out.2 0 (by omega)
      have HT := Lib.hid (twice_yes HN.out.net (by rw [HFu.out.1]; exact hlt) (by omega) (x := 0) (by unfold i64ok; omega) he0)
      rw [hel] at HT
      unfold PutT at HT
      clear he0 hel hi1 hi2
      go_wp2_with (go_at_call 17; refine HT.out.mono ?_; rintro e w2 ⟨rfl, hp⟩
                   obtain ⟨m2, g2, c2, h2⟩ := HN.out.put hp
                   have HZ : Hid (∀ v10, v10 = .int .i64 ((i + 1 : Nat) : Int) → FuL _ _ l v10 w2) := Lib.hid fun v10 h10 => ⟨i + 1, m2, _, h10, by omega, by omega, h2, HFu.out.snoc HN.out g2 c2⟩
                   clear hp h2)
      go_roundw
      case rel => first | exact HZ.out _ (by go_num) | ((repeat apply Exists.intro); exact ⟨HZ.out _ (by go_num), rfl⟩)
      case measure => simp [intOf]; omega
    · have hie : i = 1024 := by omega
      subst hie
      obtain ⟨x0, x1, x2, x3, x4⟩ := box5 (HX.out _ HN.out.bel).1
      obtain ⟨eR, heR, helR⟩ := HFu.out.2 R hR1
      have hx64 : i64ok (R : Int) := by unfold i64ok; omega
      have HLE := Lib.hid (dropN_len HN.out.net.ups heR)
      clear hlt hi1 hi2 hii helR
      go_wp2_with (first
        | (go_at_call 10; have _t := HN; refine (HF.out _ _ _ _ _ HN.out.net HFu.out.1).mono ?_; rintro e w3 ⟨rfl, hb⟩
           have H3 := Lib.hid (HN.out.below hb)
           clear hb HN _t x0 x1 x2 x3 x4)
        | (go_at_call 17; have _t := H3; refine (twice_full H3.out.net HFu.out.1 (x := (R : Int)) hx64 heR).mono ?_; rintro e w6 ⟨rfl, rfl⟩
           clear _t)
        | (go_at_call 19; have _t := H3; refine (lose_yes H3.out.net (x := (R : Int)) hx64 heR).mono ?_; rintro e w4 ⟨rfl, hp⟩
           have H4 := Lib.hid (H3.out.lose hp)
           obtain ⟨x0, x1, x2, x3, x4⟩ := box5 (HX.out _ H4.out.bel).1
           clear hp H3 _t)
        | (go_at_call 10; have _t := H4; refine (HS.out _ _ _ _ _ _ H4.out.net (by have := HLE.out; have := HFu.out.1; omega) (by omega)).mono ?_; rintro e w5 ⟨rfl, hp⟩
           obtain ⟨m5, g5, c5, h5⟩ := H4.out.put hp
           have H5 := Lib.hid h5
           clear hp h5 H4 _t)
        | (go_at_call 26; refine (aliveN_any _).mono ?_; rintro e w7 ⟨rfl, hb⟩
           have HE := Lib.hid (HX.out _ (H5.out.below hb).bel).2.2
           clear hb))
      go_ret
      exact ⟨rfl, HE.out⟩
set_option maxRecDepth 100000 in
set_option maxHeartbeats 16000000 in
theorem full_pos_take (k f t x : Int) (hR : Ltr.right ⟨k, f, t, x, []⟩ = true) (A : Option Addr) (n cap : Nat) (y : Int) (hy : ¬ y < 0) (hy2 : y ≤ 9223372036854775807) (w : World) :
    Calls Try.prog 5 #[.agg #[.int .i64 k, .int .i64 f, .int .i64 t, .int .i64 x, .slice A n cap], .int .i64 y, .bool false] w (Ans (.bool true) w) := by
  have HX := Lib.hid (law_box w ⟨k, f, t, x, []⟩ none 0 0 (RdI.nil _ _ _))
  have H1 := Lib.hid (NetW.new_box w ⟨k, f, t, x, []⟩ none 0 0)
  have hx := HX.out _ H1.out.bel
  obtain ⟨x0, x1, x2, x3, x4⟩ := box5 hx.1
  obtain ⟨l, hl⟩ : ∃ l : Ltr, l = ⟨k, f, t, x, []⟩ := ⟨_, rfl⟩
  have HS : Hid (∀ W p m L s t', NetAt W p m L s t' → L.length < 1024 → s < 100000 → Calls Try.prog 10 #[.pointer (some ⟨p, 0, none⟩), .agg #[.int .i64 k, .int .i64 f, .int .i64 t, .int .i64 x, .slice none 0 0]] W (PutT W p m L s t' l)) := Lib.hid (fun W p m L s t' hN h1 h2 => by
    have := send_yes hN h1 h2 ⟨k, f, t, x, []⟩ hR none 0 0 rfl (by omega) (RdI.nil _ _ _)
    rw [hl]
    exact this)
  have HF : Hid (∀ W p m L s, NetAt W p m L s 0 → L.length = 1024 → Calls Try.prog 10 #[.pointer (some ⟨p, 0, none⟩), .agg #[.int .i64 k, .int .i64 f, .int .i64 t, .int .i64 x, .slice none 0 0]] W (NoT W (.tuple #[.int .i64 0, .int .i64 62]))) := Lib.hid (fun W p m L s hN h1 => send_full hN h1 ⟨k, f, t, x, []⟩ hR none 0 0 rfl (by omega) (RdI.nil _ _ _))
  clear hx hR
  unfold PutT at HS
  unfold lv netO at x0 x1 x2 x3 x4 H1
  unfold lv at HX
  simp only at *
  obtain ⟨R, hRt, hR1⟩ : ∃ R : Nat, y.tmod 1024 = (R : Int) ∧ R < 1024 := ⟨y.toNat % 1024, by
    rw [Int.tmod_eq_emod_of_nonneg (by omega)]
    omega, Nat.mod_lt _ (by decide)⟩
  have HL := Lib.hid hl
  clear hl
  go_enter Try.func5, Try.ntmps5
  go_wp2_with (first
    | (go_at_call 9; refine (new_any _).mono ?_; unfold netO; rintro e w1 ⟨rfl, rfl⟩)
    | (go_at_call 10; refine (HS.out _ _ _ _ _ _ H1.out.net (by simp) (by omega)).mono ?_; rintro e w2 ⟨rfl, hp⟩
       obtain ⟨m2, g2, c2, h2⟩ := H1.out.put hp
       have HST := Lib.hid (show FuL _ _ l (.int .i64 1) w2 from ⟨1, m2, _, rfl, Nat.le_refl _, by omega, h2, FullL.snoc (i := 0) ⟨rfl, fun j hj => by omega⟩ H1.out g2 c2⟩)
       clear hp h2 H1 x0 x1 x2 x3 x4))
  go_loopw [10] (fun v10 wr => FuL (w.alloc (.cells #[.int .i64 k, .int .i64 f, .int .i64 t, .int .i64 x, .slice none 0 0] 32)) (w.heap.size + 1) l v10 wr) (fun v10 _ => 1024 - (intOf v10).toNat)
  case atStart => exact HST.out
  case round =>
    obtain ⟨i, m, L, rfl, hi1, hi2, hN, hF⟩ := hrel
    have HN := Lib.hid hN
    have HFu := Lib.hid hF
    have hii : (i : Int) ≤ 1024 := by omega
    clear hN hF
    by_cases hlt : i < 1024
    · have hlti : (i : Int) < 1024 := by omega
      obtain ⟨e0, he0, hel⟩ := HFu.out.2 0 (by omega)
      have HT := Lib.hid (twice_yes HN.out.net (by rw [HFu.out.1]; exact hlt) (by omega) (x := 0) (by unfold i64ok; omega) he0)
      rw [hel] at HT
      unfold PutT at HT
      clear he0 hel hi1 hi2
      go_wp2_with (go_at_call 17; refine HT.out.mono ?_; rintro e w2 ⟨rfl, hp⟩
                   obtain ⟨m2, g2, c2, h2⟩ := HN.out.put hp
                   have HZ : Hid (∀ v10, v10 = .int .i64 ((i + 1 : Nat) : Int) → FuL _ _ l v10 w2) := Lib.hid fun v10 h10 => ⟨i + 1, m2, _, h10, by omega, by omega, h2, HFu.out.snoc HN.out g2 c2⟩
                   clear hp h2)
      go_roundw
      case rel => first | exact HZ.out _ (by go_num) | ((repeat apply Exists.intro); exact ⟨HZ.out _ (by go_num), rfl⟩)
      case measure => simp [intOf]; omega
    · have hie : i = 1024 := by omega
      subst hie
      obtain ⟨x0, x1, x2, x3, x4⟩ := box5 (HX.out _ HN.out.bel).1
      obtain ⟨eR, heR, helR⟩ := HFu.out.2 R hR1
      have hx64 : i64ok (R : Int) := by unfold i64ok; omega
      have HLE := Lib.hid (dropN_len HN.out.net.ups heR)
      clear hlt hi1 hi2 hii helR
      go_wp2_with (first
        | (go_at_call 10; have _t := HN; refine (HF.out _ _ _ _ _ HN.out.net HFu.out.1).mono ?_; rintro e w3 ⟨rfl, hb⟩
           have H3 := Lib.hid (HN.out.below hb)
           clear hb HN _t x0 x1 x2 x3 x4)
        | (go_at_call 17; have _t := H3; refine (twice_full H3.out.net HFu.out.1 (x := (R : Int)) hx64 heR).mono ?_; rintro e w6 ⟨rfl, rfl⟩
           clear _t)
        | (go_at_call 15; have _t := H3; refine (take_yes H3.out.net (x := (R : Int)) hx64 heR).mono ?_; unfold TakeT; rintro e w4 ⟨A4, cap4, rfl, hp⟩
           have H4 := Lib.hid (H3.out.take hp)
           obtain ⟨x0, x1, x2, x3, x4⟩ := box5 (HX.out _ H4.out.bel).1
           clear hp H3 _t)
        | (go_at_call 10; have _t := H4; refine (HS.out _ _ _ _ _ _ H4.out.net (by have := HLE.out; have := HFu.out.1; omega) (by omega)).mono ?_; rintro e w5 ⟨rfl, hp⟩
           obtain ⟨m5, g5, c5, h5⟩ := H4.out.put hp
           have H5 := Lib.hid h5
           clear hp h5 H4 _t)
        | (go_at_call 26; refine (aliveN_any _).mono ?_; rintro e w7 ⟨rfl, hb⟩
           have HE := Lib.hid (HX.out _ (H5.out.below hb).bel).2.2
           clear hb))
      go_ret
      exact ⟨rfl, HE.out⟩
theorem netFull_law (l : Ltr) (A : Option Addr) (n cap : Nat) (y : Int) (b : Bool) (w : World) (hy : i64ok y) :
    Calls Try.prog 5 #[.agg #[.int .i64 l.k, .int .i64 l.f, .int .i64 l.t, .int .i64 l.x, .slice A n cap], .int .i64 y, .bool b] w (Ans (.bool true) w) := by
  cases hR : Ltr.right ⟨l.k, l.f, l.t, l.x, []⟩
  · exact full_wrong _ _ _ _ hR A n cap y b w
  · by_cases hn : y < 0
    · cases b
      · exact full_neg_take _ _ _ _ hR A n cap y hn hy.1 w
      · exact full_neg_lose _ _ _ _ hR A n cap y hn hy.1 w
    · cases b
      · exact full_pos_take _ _ _ _ hR A n cap y hn hy.2 w
      · exact full_pos_lose _ _ _ _ hR A n cap y hn hy.2 w
end Go.Proofs.Ythapjoghnhfkdaa
