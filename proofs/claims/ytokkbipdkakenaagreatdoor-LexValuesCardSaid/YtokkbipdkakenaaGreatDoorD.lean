/- Text answers a value's text. -/
import Derived.Test.YtokkbipdkakenaaGreatDoorC
import Derived.Test.YtokkbipdkakenaaGreatDoorM
namespace Go.Proofs.YtokkbipdkakenaaGreatDoor
open Go.RowKit

attribute [local go_sem ↓] eqV
def signL (n : Int) : List UInt8 := if n < 0 then [45] else []
theorem text_wrong (x : Val) (hl : x.s.size ≤ 9223372036854775807) (hr : rightB x = false) (w : World) : Calls Tryz.prog 4 #[x.v] w (Ans (.string ⟨#[63]⟩) w) := by
  obtain ⟨k, n, s⟩ := x
  have HR : Hid (∀ w, Calls Tryz.prog 5 #[.agg #[.int .i64 k, .int .i64 n, .string s]] w (Ans (.bool false) w)) := fun w => by
    have := right_any ⟨k, n, s⟩ hl w
    rwa [hr] at this
  have HB := Lib.hid (alloc_below w (.cells #[.int .i64 k, .int .i64 n, .string s] 24))
  unfold Val.v
  clear hr hl
  go_enter Tryz.func4, Tryz.ntmps4
  go_wp2_with (go_at_call 5; refine (HR.out _).mono ?_; rintro e w' ⟨rfl, hb⟩; have HB := Lib.hid (HB.out.trans (hb.mono HB.out.size)); clear hb)
  go_ret
  exact ⟨rfl, HB.out⟩

/-- in the midst of Text: the value's box, the tables -/
structure TS (w0 : World) (b : Nat) (k n : Int) (s : ByteArray) (W : World) : Prop where
  box : W.heap[b]? = some (.cells #[.int .i64 k, .int .i64 n, .string s] 24 (0, 0))
  env : Env W
  bel : Below w0.heap.size w0 W
theorem TS.next {w0 W V : World} {b : Nat} {k n : Int} {s : ByteArray} (h : TS w0 b k n s W) (hb : Below W.heap.size W V) : TS w0 b k n s V :=
  ⟨(hb.block _ (Array.getElem?_eq_some_iff.1 h.box).1).trans h.box, h.env.below hb, h.bel.trans (hb.mono h.bel.size)⟩
theorem TS.start {w : World} (k n : Int) (s : ByteArray) (hE : Env w) : TS w w.heap.size k n s (w.alloc (.cells #[.int .i64 k, .int .i64 n, .string s] 24)) :=
  ⟨heap_alloc_new _ _, hE.below (alloc_below _ _), alloc_below _ _⟩

theorem sign_neg (n : Int) (h : n < 0) (w : World) : Calls Tryz.prog 13 #[.int .i64 n] w fun e w' => e = .returned (.string ⟨#[45]⟩) ∧ w = w' := by
  have := sign_any n w
  rwa [if_pos h] at this
theorem sign_pos (n : Int) (h : ¬ n < 0) (w : World) : Calls Tryz.prog 13 #[.int .i64 n] w fun e w' => e = .returned (.string ⟨#[]⟩) ∧ w = w' := by
  have := sign_any n w
  rwa [if_neg h] at this
theorem empty_cat (d : ByteArray) : (⟨#[]⟩ : ByteArray) ++ d = d := by
  apply ByteArray.ext; rw [ByteArray.data_append]; simp
theorem cat_empty (d : ByteArray) : d ++ (⟨#[]⟩ : ByteArray) = d := by
  apply ByteArray.ext; rw [ByteArray.data_append]; simp
theorem ret_str {a b : ByteArray} (h : a = b) : Ending.returned (.string a) = .returned (.string b) := by rw [h]
theorem decS_le (u : Nat) (h : u < 18446744073709551616) : (decS u).size ≤ 20 := by
  have : (decS u).size = Lib.nDigits u := by simp [decS, ByteArray.size, Lib.decDigits_length]
  rw [this]
  rcases Nat.eq_zero_or_pos u with rfl | h1
  · rw [Lib.nDigits_small (by omega)]; omega
  · have := Lib.numDigits_eq u h1 h; split at this <;> omega
theorem pad4_size (u : Nat) (h : u < 10000) : (pad4 u).size = 4 := by
  have := nd4 u h
  simp [pad4, ByteArray.size, Lib.decDigits_length]; omega
/-- Text behind the value's check, of a value of kind k -/
theorem right_yes (k n : Int) (s : ByteArray) (hr : rightB ⟨k, n, s⟩ = true) (hl : s.size ≤ 9223372036854775807) (w : World) : Calls Tryz.prog 5 #[.agg #[.int .i64 k, .int .i64 n, .string s]] w (Ans (.bool true) w) := by
  have := right_any ⟨k, n, s⟩ hl w
  rwa [hr] at this
theorem magnitude_m (n : Int) (m : Nat) (hm : m = n.natAbs) (hn : i64ok n) (w : World) : Calls Tryz.prog 9 #[.int .i64 n] w fun e w' => e = .returned (.int .u64 (m : Int)) ∧ w = w' := by
  subst hm; exact magnitude_any n hn w
set_option maxRecDepth 100000 in
set_option maxHeartbeats 4000000 in
theorem text_null (n : Int) (s : ByteArray) (hr : rightB ⟨0, n, s⟩ = true) (hn : i64ok n) (hl : s.size ≤ 1000) (w : World) (hE : Env w) : Calls Tryz.prog 4 #[.agg #[.int .i64 0, .int .i64 n, .string s]] w (Ans (.string ⟨#[110, 117, 108, 108]⟩) w) := by
  have HR := Lib.hid (right_yes 0 n s hr (by omega))
  have HT := Lib.hid (TS.start 0 n s hE)
  obtain ⟨m, hm⟩ : ∃ m, m = n.natAbs := ⟨_, rfl⟩
  have HM := Lib.hid (magnitude_m n m hm hn)
  have HL := Lib.hid hl
  clear hr hl hn hE hm
  go_enter Tryz.func4, Tryz.ntmps4
  go_wp2_with (first
    | (go_at_call 5; refine (HR.out _).mono ?_; rintro e w' ⟨rfl, hb⟩; have HT := Lib.hid (HT.out.next hb); obtain ⟨x0, x1, x2⟩ := box3 HT.out.box; clear hb)
    | (go_at_call 9; refine (HM.out _).mono ?_; rintro e w' ⟨rfl, rfl⟩))
  go_quiet (fail)
  go_wp2_with fail
  go_ret
  exact ⟨rfl, HT.out.bel.trans ((drewN_below _ _).mono HT.out.bel.size)⟩
set_option maxRecDepth 100000 in
set_option maxHeartbeats 4000000 in
theorem text_int (n : Int) (s : ByteArray) (hr : rightB ⟨2, n, s⟩ = true) (hn : i64ok n) (hl : s.size ≤ 1000) (w : World) (hE : Env w) : Calls Tryz.prog 4 #[.agg #[.int .i64 2, .int .i64 n, .string s]] w (Ans (.string (⟨(signL n).toArray⟩ ++ decS n.natAbs)) w) := by
  have HR := Lib.hid (right_yes 2 n s hr (by omega))
  have HT := Lib.hid (TS.start 2 n s hE)
  obtain ⟨m, hm⟩ : ∃ m, m = n.natAbs := ⟨_, rfl⟩
  have HM := Lib.hid (magnitude_m n m hm hn)
  have HL := Lib.hid hl
  have HMS : Hid ((decS m).size ≤ 20 ∧ m < 18446744073709551616) := Lib.hid (by
    have : m < 18446744073709551616 := by unfold i64ok at hn; omega
    exact ⟨decS_le m this, this⟩)
  have HMM : Hid (decS m = decS n.natAbs) := Lib.hid (by rw [hm])
  clear hr hl hn hE hm
  by_cases hng : n < 0
  · have SG := Lib.hid (sign_neg n hng)
    have f1 : ¬ 9223372036854775807 < (⟨#[45]⟩ : ByteArray).size + (decS m).size := by have := HMS.out.1; show ¬ _ < 1 + _; omega
    have f2 : ¬ 9223372036854775807 < 1 + (decS m).size := by have := HMS.out.1; omega
    have HSL : Hid (signL n = [45]) := Lib.hid (by unfold signL; rw [if_pos hng])
    clear hng
    go_enter Tryz.func4, Tryz.ntmps4
    go_wp2_with (first
      | (go_at_call 5; refine (HR.out _).mono ?_; rintro e w' ⟨rfl, hb⟩; have HT := Lib.hid (HT.out.next hb); obtain ⟨x0, x1, x2⟩ := box3 HT.out.box; clear hb)
      | (go_at_call 9; refine (HM.out _).mono ?_; rintro e w' ⟨rfl, rfl⟩))
    go_quiet (fail)
    go_wp2_with (first
      | (go_at_call 13; refine (SG.out _).mono ?_; rintro e w' ⟨rfl, rfl⟩)
      | (go_at_call 14; refine (formatUint_any m (by have := HMS.out; omega) _ (by exact HT.out.env.below (drewN_below _ _))).mono ?_; rintro e w' ⟨rfl, hb⟩; have HT := Lib.hid (HT.out.next ((drewN_below _ _).trans hb)); clear hb))
    go_ret
    exact ⟨ret_str (by rw [cat_empty, HSL.out, HMM.out]), HT.out.bel⟩
  · have SG := Lib.hid (sign_pos n hng)
    have f1 : ¬ 9223372036854775807 < (⟨#[]⟩ : ByteArray).size + (decS m).size := by have := HMS.out.1; show ¬ _ < 0 + _; omega
    have f2 : ¬ 9223372036854775807 < (decS m).size := by have := HMS.out.1; omega
    have HSL : Hid (signL n = []) := Lib.hid (by unfold signL; rw [if_neg hng])
    clear hng
    go_enter Tryz.func4, Tryz.ntmps4
    go_wp2_with (first
      | (go_at_call 5; refine (HR.out _).mono ?_; rintro e w' ⟨rfl, hb⟩; have HT := Lib.hid (HT.out.next hb); obtain ⟨x0, x1, x2⟩ := box3 HT.out.box; clear hb)
      | (go_at_call 9; refine (HM.out _).mono ?_; rintro e w' ⟨rfl, rfl⟩))
    go_quiet (fail)
    go_wp2_with (first
      | (go_at_call 13; refine (SG.out _).mono ?_; rintro e w' ⟨rfl, rfl⟩)
      | (go_at_call 14; refine (formatUint_any m (by have := HMS.out; omega) _ (by exact HT.out.env.below (drewN_below _ _))).mono ?_; rintro e w' ⟨rfl, hb⟩; have HT := Lib.hid (HT.out.next ((drewN_below _ _).trans hb)); clear hb))
    go_ret
    exact ⟨ret_str (by rw [cat_empty, HSL.out, HMM.out]), HT.out.bel⟩
set_option maxRecDepth 100000 in
set_option maxHeartbeats 4000000 in
theorem text_dec (n : Int) (s : ByteArray) (hr : rightB ⟨3, n, s⟩ = true) (hn : i64ok n) (hl : s.size ≤ 1000) (w : World) (hE : Env w) : Calls Tryz.prog 4 #[.agg #[.int .i64 3, .int .i64 n, .string s]] w (Ans (.string (⟨(signL n).toArray⟩ ++ decS (n.natAbs / 10000) ++ (⟨#[46]⟩ ++ pad4 (n.natAbs % 10000)))) w) := by
  have HR := Lib.hid (right_yes 3 n s hr (by omega))
  have HT := Lib.hid (TS.start 3 n s hE)
  obtain ⟨m, hm⟩ : ∃ m, m = n.natAbs := ⟨_, rfl⟩
  have HM := Lib.hid (magnitude_m n m hm hn)
  have HL := Lib.hid hl
  have HMS : Hid ((decS (m / 10000)).size ≤ 20 ∧ m / 10000 < 18446744073709551616 ∧ (pad4 (m % 10000)).size = 4 ∧ m % 10000 < 10000) := Lib.hid (by
    have h1 : m < 18446744073709551616 := by unfold i64ok at hn; omega
    have h2 : m / 10000 < 18446744073709551616 := by omega
    have h3 : m % 10000 < 10000 := by omega
    exact ⟨decS_le _ h2, h2, pad4_size _ h3, h3⟩)
  have HMM : Hid (n.natAbs = m) := Lib.hid hm.symm
  obtain ⟨q, hq⟩ : ∃ q, q = m / 10000 := ⟨_, rfl⟩
  obtain ⟨r, hr2⟩ : ∃ r, r = m % 10000 := ⟨_, rfl⟩
  rw [← hq, ← hr2] at HMS
  have hqi : (m : Int) / 10000 = (q : Int) := by omega
  have hri : (m : Int) % 10000 = (r : Int) := by omega
  have hwq : IntKind.u64.wrap (q : Int) = (q : Int) := by have := HMS.out; rw [IntKind.wrap_u64]; omega
  have HQ := Lib.hid hq
  have HRR := Lib.hid hr2
  clear hr hl hn hE hm hq hr2
  by_cases hng : n < 0
  · have SG := Lib.hid (sign_neg n hng)
    have f1 : ¬ 9223372036854775807 < (⟨#[45]⟩ : ByteArray).size + (decS q).size := by have := HMS.out.1; show ¬ _ < 1 + _; omega
    have f2 : ¬ 9223372036854775807 < (⟨#[46]⟩ : ByteArray).size + (pad4 r).size := by have := HMS.out.2.2.1; show ¬ _ < 1 + _; omega
    have f3 : ¬ 9223372036854775807 < 1 + (decS q).size + (1 + (pad4 r).size) := by have := HMS.out; omega
    have HSL : Hid (signL n = [45]) := Lib.hid (by unfold signL; rw [if_pos hng])
    clear hng
    go_enter Tryz.func4, Tryz.ntmps4
    go_wp2_with (first
      | (go_at_call 5; refine (HR.out _).mono ?_; rintro e w' ⟨rfl, hb⟩; have HT := Lib.hid (HT.out.next hb); obtain ⟨x0, x1, x2⟩ := box3 HT.out.box; clear hb)
      | (go_at_call 9; refine (HM.out _).mono ?_; rintro e w' ⟨rfl, rfl⟩))
    go_quiet (fail)
    go_wp2_with (first
      | (go_at_call 12; refine (fraction_any r (by have := HMS.out; omega) _ (by exact HT.out.env.below (drewN_below _ _))).mono ?_; rintro e w' ⟨rfl, hb⟩; have HT := Lib.hid (HT.out.next ((drewN_below _ _).trans hb)); obtain ⟨x0, x1, x2⟩ := box3 HT.out.box; clear hb)
      | (go_at_call 13; refine (SG.out _).mono ?_; rintro e w' ⟨rfl, rfl⟩)
      | (go_at_call 14; refine (formatUint_any q (by have := HMS.out; omega) _ (by exact HT.out.env)).mono ?_; rintro e w' ⟨rfl, hb⟩; have HT := Lib.hid (HT.out.next hb); clear hb))
    go_ret
    exact ⟨ret_str (by rw [HSL.out, HMM.out, ← HQ.out, ← HRR.out]), HT.out.bel⟩
  · have SG := Lib.hid (sign_pos n hng)
    have f1 : ¬ 9223372036854775807 < (⟨#[]⟩ : ByteArray).size + (decS q).size := by have := HMS.out.1; show ¬ _ < 0 + _; omega
    have f2 : ¬ 9223372036854775807 < (⟨#[46]⟩ : ByteArray).size + (pad4 r).size := by have := HMS.out.2.2.1; show ¬ _ < 1 + _; omega
    have f3 : ¬ 9223372036854775807 < (decS q).size + (1 + (pad4 r).size) := by have := HMS.out; omega
    have HSL : Hid (signL n = []) := Lib.hid (by unfold signL; rw [if_neg hng])
    clear hng
    go_enter Tryz.func4, Tryz.ntmps4
    go_wp2_with (first
      | (go_at_call 5; refine (HR.out _).mono ?_; rintro e w' ⟨rfl, hb⟩; have HT := Lib.hid (HT.out.next hb); obtain ⟨x0, x1, x2⟩ := box3 HT.out.box; clear hb)
      | (go_at_call 9; refine (HM.out _).mono ?_; rintro e w' ⟨rfl, rfl⟩))
    go_quiet (fail)
    go_wp2_with (first
      | (go_at_call 12; refine (fraction_any r (by have := HMS.out; omega) _ (by exact HT.out.env.below (drewN_below _ _))).mono ?_; rintro e w' ⟨rfl, hb⟩; have HT := Lib.hid (HT.out.next ((drewN_below _ _).trans hb)); obtain ⟨x0, x1, x2⟩ := box3 HT.out.box; clear hb)
      | (go_at_call 13; refine (SG.out _).mono ?_; rintro e w' ⟨rfl, rfl⟩)
      | (go_at_call 14; refine (formatUint_any q (by have := HMS.out; omega) _ (by exact HT.out.env)).mono ?_; rintro e w' ⟨rfl, hb⟩; have HT := Lib.hid (HT.out.next hb); clear hb))
    go_ret
    exact ⟨ret_str (by rw [HSL.out, HMM.out, ← HQ.out, ← HRR.out]), HT.out.bel⟩
theorem size_of (l : List UInt8) : (⟨l.toArray⟩ : ByteArray).size = l.length := by
  show l.toArray.size = _
  simp
theorem size_list (s : ByteArray) : s.size = s.data.toList.length := by
  show s.data.size = _
  simp
theorem countB_39 (s : ByteArray) : Lib.countB s ⟨#[39]⟩ ≤ s.size := Lib.countB_le ⟨#[39]⟩ (by decide) s.size s (Nat.le_refl _)
def quotS (s : ByteArray) : ByteArray := ⟨(dbl s.data.toList).toArray⟩
theorem quotS_size (s : ByteArray) : (quotS s).size ≤ 2 * s.size := by
  unfold quotS
  rw [size_of (dbl s.data.toList), size_list s]
  exact dbl_len s.data.toList
theorem quotS_any (s : ByteArray) (hs : s.size ≤ 2000) (w : World) (hE : Env w) : Calls Tryz.prog 16 #[.string s, .string ⟨#[39]⟩, .string ⟨#[39, 39]⟩] w (Ans (.string (quotS s)) w) := by
  obtain ⟨m, hm⟩ := hE.len
  have := countB_39 s
  have h := Tryz.strings_ReplaceAll s ⟨#[39]⟩ ⟨#[39, 39]⟩ m w (by omega) hm (by decide) (by show s.size + Lib.countB s ⟨#[39]⟩ * 2 ≤ _; omega)
  have e : Lib.replaceAll s.data.toList (⟨#[39]⟩ : ByteArray).data.toList (⟨#[39, 39]⟩ : ByteArray).data.toList = dbl s.data.toList := repl_dbl _
  rw [e] at h
  exact h
def hexS (s : ByteArray) : ByteArray := ⟨(hexL s.data.toList).toArray⟩
theorem hexd_ne (n : Nat) (h : n < 16) : hexd n ≠ 39 := by
  have hq : n = 0 ∨ n = 1 ∨ n = 2 ∨ n = 3 ∨ n = 4 ∨ n = 5 ∨ n = 6 ∨ n = 7 ∨ n = 8 ∨ n = 9 ∨ n = 10 ∨ n = 11 ∨ n = 12 ∨ n = 13 ∨ n = 14 ∨ n = 15 := by omega
  rcases hq with rfl | rfl | rfl | rfl | rfl | rfl | rfl | rfl | rfl | rfl | rfl | rfl | rfl | rfl | rfl | rfl <;> decide
theorem hexL_ne (l : List UInt8) : ∀ c ∈ hexL l, c ≠ 39 := by
  intro c hc
  unfold hexL at hc
  obtain ⟨d, _, hd⟩ := List.mem_flatMap.1 hc
  have := d.toNat_lt
  simp only [List.mem_cons, List.not_mem_nil, or_false] at hd
  rcases hd with rfl | rfl
  · exact hexd_ne _ (by omega)
  · exact hexd_ne _ (by omega)
theorem hexS_size (s : ByteArray) : (hexS s).size = 2 * s.size := by
  unfold hexS
  rw [size_of (hexL s.data.toList), size_list s]
  exact hexL_len s.data.toList
theorem hexQ_any (s : ByteArray) (hs : s.size ≤ 1000) (w : World) (hE : Env w) : Calls Tryz.prog 16 #[.string (hexS s), .string ⟨#[39]⟩, .string ⟨#[39, 39]⟩] w (Ans (.string (hexS s)) w) := by
  have h := quotS_any (hexS s) (by rw [hexS_size]; omega) w hE
  have e : quotS (hexS s) = hexS s := by unfold quotS hexS; simp [dbl_none _ (hexL_ne s.data.toList)]
  rwa [e] at h
set_option maxRecDepth 100000 in
set_option maxHeartbeats 4000000 in
theorem text_text (n : Int) (s : ByteArray) (hr : rightB ⟨4, n, s⟩ = true) (hn : i64ok n) (hl : s.size ≤ 1000) (w : World) (hE : Env w) : Calls Tryz.prog 4 #[.agg #[.int .i64 4, .int .i64 n, .string s]] w (Ans (.string (⟨#[39]⟩ ++ quotS s ++ ⟨#[39]⟩)) w) := by
  have HR := Lib.hid (right_yes 4 n s hr (by omega))
  have HT := Lib.hid (TS.start 4 n s hE)
  obtain ⟨m, hm⟩ : ∃ m, m = n.natAbs := ⟨_, rfl⟩
  have HM := Lib.hid (magnitude_m n m hm hn)
  have HL := Lib.hid hl
  have HQS : Hid ((quotS s).size ≤ 2000) := Lib.hid (by have := quotS_size s; omega)
  have f1 : ¬ 9223372036854775807 < (⟨#[39]⟩ : ByteArray).size + (quotS s).size := by have := HQS.out; show ¬ _ < 1 + _; omega
  have f2 : ¬ 9223372036854775807 < 1 + (quotS s).size + 1 := by have := HQS.out; omega
  clear hr hl hn hE hm
  go_enter Tryz.func4, Tryz.ntmps4
  go_wp2_with (first
    | (go_at_call 5; refine (HR.out _).mono ?_; rintro e w' ⟨rfl, hb⟩; have HT := Lib.hid (HT.out.next hb); obtain ⟨x0, x1, x2⟩ := box3 HT.out.box; clear hb)
    | (go_at_call 9; refine (HM.out _).mono ?_; rintro e w' ⟨rfl, rfl⟩))
  go_quiet (fail)
  go_wp2_with (first
    | (go_at_call 16; refine (quotS_any s (by have := HL.out; omega) _ (by exact HT.out.env.below (drewN_below _ _))).mono ?_; rintro e w' ⟨rfl, hb⟩; have HT := Lib.hid (HT.out.next ((drewN_below _ _).trans hb)); clear hb))
  go_ret
  exact ⟨rfl, HT.out.bel⟩
set_option maxRecDepth 100000 in
set_option maxHeartbeats 4000000 in
theorem text_bytes (n : Int) (s : ByteArray) (hr : rightB ⟨5, n, s⟩ = true) (hn : i64ok n) (hl : s.size ≤ 1000) (w : World) (hE : Env w) : Calls Tryz.prog 4 #[.agg #[.int .i64 5, .int .i64 n, .string s]] w (Ans (.string (⟨#[120, 39]⟩ ++ hexS s ++ ⟨#[39]⟩)) w) := by
  have HR := Lib.hid (right_yes 5 n s hr (by omega))
  have HT := Lib.hid (TS.start 5 n s hE)
  obtain ⟨m, hm⟩ : ∃ m, m = n.natAbs := ⟨_, rfl⟩
  have HM := Lib.hid (magnitude_m n m hm hn)
  have HL := Lib.hid hl
  have HQS : Hid ((hexS s).size ≤ 2000) := Lib.hid (by have := hexS_size s; omega)
  have f1 : ¬ 9223372036854775807 < (⟨#[120, 39]⟩ : ByteArray).size + (hexS s).size := by have := HQS.out; show ¬ _ < 2 + _; omega
  have f2 : ¬ 9223372036854775807 < 2 + (hexS s).size + 1 := by have := HQS.out; omega
  clear hr hl hn hE hm
  go_enter Tryz.func4, Tryz.ntmps4
  go_wp2_with (first
    | (go_at_call 5; refine (HR.out _).mono ?_; rintro e w' ⟨rfl, hb⟩; have HT := Lib.hid (HT.out.next hb); obtain ⟨x0, x1, x2⟩ := box3 HT.out.box; clear hb)
    | (go_at_call 9; refine (HM.out _).mono ?_; rintro e w' ⟨rfl, rfl⟩))
  go_quiet (fail)
  go_wp2_with (first
    | (go_at_call 15; refine (digits_any s (by have := HL.out; omega) _).mono ?_; rintro e w' ⟨rfl, hb⟩; have HT := Lib.hid (HT.out.next ((drewN_below _ _).trans hb)); clear hb)
    | (go_at_call 16; refine (hexQ_any s (by have := HL.out; omega) _ (by exact HT.out.env)).mono ?_; rintro e w' ⟨rfl, hb⟩; have HT := Lib.hid (HT.out.next hb); clear hb))
  go_ret
  exact ⟨rfl, HT.out.bel⟩
theorem fmt_text_true (w : World) : Calls Tryz.prog 10 #[.bool true] w fun e w' => e = .returned (.string ⟨#[116, 114, 117, 101]⟩) ∧ w = w' :=
  (Tryz.strconv_FormatBool true w).mono fun _ _ ⟨h1, h2⟩ => ⟨h1.trans (by rfl), h2.symm⟩
set_option maxRecDepth 100000 in
set_option maxHeartbeats 4000000 in
theorem text_true (w : World) (hE : Env w) : Calls Tryz.prog 4 #[.agg #[.int .i64 1, .int .i64 1, .string ⟨#[]⟩]] w (Ans (.string ⟨#[116, 114, 117, 101]⟩) w) := by
  have HR := Lib.hid (right_yes 1 1 ⟨#[]⟩ (by decide) (by decide))
  have HT := Lib.hid (TS.start 1 1 ⟨#[]⟩ hE)
  have HM := Lib.hid (magnitude_m 1 1 rfl (by unfold i64ok; omega))
  have he : eqB 1 1 ⟨#[]⟩ 1 1 ⟨#[]⟩ = true := by decide
  clear hE
  go_enter Tryz.func4, Tryz.ntmps4
  go_wp2_with (first
    | (go_at_call 5; refine (HR.out _).mono ?_; rintro e w' ⟨rfl, hb⟩; have HT := Lib.hid (HT.out.next hb); obtain ⟨x0, x1, x2⟩ := box3 HT.out.box; clear hb)
    | (go_at_call 9; refine (HM.out _).mono ?_; rintro e w' ⟨rfl, rfl⟩))
  go_quiet (fail)
  go_wp2_with fail
  go_region_held3 (fun w' => w'.cell? ⟨w.heap.size, 0, none⟩ = some (.int .i64 1) ∧ w'.cell? ⟨w.heap.size, 1, none⟩ = some (.int .i64 1) ∧ w'.cell? ⟨w.heap.size, 2, none⟩ = some (.string ⟨#[]⟩))
    (first | exact box3 HT.out.box | go_keep)
    (first
      | (go_at_call 11; refine (truth_yes _).mono ?_; rintro e w2 ⟨rfl, hb⟩; have HT := Lib.hid (HT.out.next (((drewN_below _ _).drew).trans hb)))
      | (go_at_call 10; refine (fmt_text_true _).mono ?_; rintro e w3 ⟨rfl, rfl⟩))
  go_wp2_with fail
  go_ret
  exact ⟨rfl, HT.out.bel⟩
theorem fmt_text_false (w : World) : Calls Tryz.prog 10 #[.bool false] w fun e w' => e = .returned (.string ⟨#[102, 97, 108, 115, 101]⟩) ∧ w = w' :=
  (Tryz.strconv_FormatBool false w).mono fun _ _ ⟨h1, h2⟩ => ⟨h1.trans (by rfl), h2.symm⟩
set_option maxRecDepth 100000 in
set_option maxHeartbeats 4000000 in
theorem text_false (w : World) (hE : Env w) : Calls Tryz.prog 4 #[.agg #[.int .i64 1, .int .i64 0, .string ⟨#[]⟩]] w (Ans (.string ⟨#[102, 97, 108, 115, 101]⟩) w) := by
  have HR := Lib.hid (right_yes 1 0 ⟨#[]⟩ (by decide) (by decide))
  have HT := Lib.hid (TS.start 1 0 ⟨#[]⟩ hE)
  have HM := Lib.hid (magnitude_m 0 0 rfl (by unfold i64ok; omega))
  have he : eqB 1 0 ⟨#[]⟩ 1 1 ⟨#[]⟩ = false := by decide
  clear hE
  go_enter Tryz.func4, Tryz.ntmps4
  go_wp2_with (first
    | (go_at_call 5; refine (HR.out _).mono ?_; rintro e w' ⟨rfl, hb⟩; have HT := Lib.hid (HT.out.next hb); obtain ⟨x0, x1, x2⟩ := box3 HT.out.box; clear hb)
    | (go_at_call 9; refine (HM.out _).mono ?_; rintro e w' ⟨rfl, rfl⟩))
  go_quiet (fail)
  go_wp2_with fail
  go_region_held3 (fun w' => w'.cell? ⟨w.heap.size, 0, none⟩ = some (.int .i64 1) ∧ w'.cell? ⟨w.heap.size, 1, none⟩ = some (.int .i64 0) ∧ w'.cell? ⟨w.heap.size, 2, none⟩ = some (.string ⟨#[]⟩))
    (first | exact box3 HT.out.box | go_keep)
    (first
      | (go_at_call 11; refine (truth_yes _).mono ?_; rintro e w2 ⟨rfl, hb⟩; have HT := Lib.hid (HT.out.next (((drewN_below _ _).drew).trans hb)))
      | (go_at_call 10; refine (fmt_text_false _).mono ?_; rintro e w3 ⟨rfl, rfl⟩))
  go_wp2_with fail
  go_ret
  exact ⟨rfl, HT.out.bel⟩
end Go.Proofs.YtokkbipdkakenaaGreatDoor
