/- The document's Text of a value. -/
import Derived.Test.YtneppncnccangaaGreatDoorTC
import Derived.Test.YtneppncnccangaaGreatDoorKB
import Derived.Test.YtneppncnccangaaGreatDoorRO
import Derived.Test.YtneppncnccangaaGreatDoorNX
namespace Go.Proofs.YtneppncnccangaaGreatDoor
open Go.RowKit

theorem bapp (a b : ByteArray) : (a ++ b).data.toList = a.data.toList ++ b.data.toList := by rw [ByteArray.data_append]; simp
theorem list_size (s : ByteArray) : s.data.toList.length = s.size := by simp
theorem padD_1 (u : Nat) : padD 1 u = Lib.decDigits u := by
  unfold padD
  have := dec_ne u
  have h : 1 - (Lib.decDigits u).length = 0 := by
    have : 0 < (Lib.decDigits u).length := List.length_pos_iff.2 this
    omega
  rw [h]; rfl
theorem padD_len {least u : Nat} (hu : u < 18446744073709551616) (h4 : least ≤ 4) : (padD least u).length ≤ 24 := by
  unfold padD
  have := dec_20 hu
  rw [List.length_append, List.length_replicate]
  omega
theorem dbl_snoc (l : List UInt8) (c : UInt8) : dbl (l ++ [c]) = dbl l ++ (if c = 39 then [39, 39] else [c]) := by
  induction l with
  | nil => simp only [List.nil_append, dbl]
  | cons d l ih =>
    simp only [List.cons_append, dbl]
    split
    · rw [ih]; rfl
    · rw [ih]; rfl
theorem dbl_len2 (l : List UInt8) : (dbl l).length ≤ 2 * l.length := by
  induction l with
  | nil => simp [dbl]
  | cons c l ih =>
    simp only [dbl]
    split
    · simp only [List.length_cons]; omega
    · simp only [List.length_cons]; omega
theorem cut_one (s : ByteArray) (i : Nat) (h : i < s.size) : (s.extract i (i + 1)).data.toList = [s[i]'h] := by
  rw [ByteArray.data_extract, Array.toList_extract, List.extract_eq_take_drop]
  have h2 : i < s.data.toList.length := by rw [list_size]; exact h
  rw [show i + 1 - i = 1 by omega, List.drop_eq_getElem_cons h2, List.take_succ_cons, List.take_zero]
  rfl
theorem hex_str (d : Nat) (h : d < 16) : ((⟨#[48, 49, 50, 51, 52, 53, 54, 55, 56, 57, 97, 98, 99, 100, 101, 102]⟩ : ByteArray).extract d (d + 1)).data.toList = [hexd d] := by
  have hq : d = 0 ∨ d = 1 ∨ d = 2 ∨ d = 3 ∨ d = 4 ∨ d = 5 ∨ d = 6 ∨ d = 7 ∨ d = 8 ∨ d = 9 ∨ d = 10 ∨ d = 11 ∨ d = 12 ∨ d = 13 ∨ d = 14 ∨ d = 15 := by omega
  rcases hq with rfl | rfl | rfl | rfl | rfl | rfl | rfl | rfl | rfl | rfl | rfl | rfl | rfl | rfl | rfl | rfl <;> rfl
theorem ret_strE {a b : ByteArray} (h : a.data.toList = b.data.toList) : Ending.returned (.string a) = .returned (.string b) := by rw [bytes_ext h]
theorem signL_size (n : Int) : (⟨(signL n).toArray⟩ : ByteArray).size ≤ 1 := by
  show (signL n).toArray.size ≤ 1
  unfold signL
  split <;> simp
/-- at the head of the text's loop -/
def TXL (w : World) (n : Int) (s : ByteArray) (v6 v8 : Value) (wr : World) : Prop := ∃ (i : Nat) (t : ByteArray), v6 = .string t ∧ v8 = .int .i64 (i : Int) ∧ i ≤ s.size ∧ t.data.toList = dbl (s.data.toList.take i) ∧ wr.heap[w.heap.size]? = some (.cells #[.int .i64 4, .int .i64 n, .string s] 24 (0, 0)) ∧ Below w.heap.size w wr
theorem txl_size {s t : ByteArray} {i : Nat} (hi : i ≤ s.size) (h : t.data.toList = dbl (s.data.toList.take i)) : t.size ≤ 2 * s.size := by
  have h1 := dbl_len2 (s.data.toList.take i)
  rw [← h, list_size, List.length_take, list_size] at h1
  omega
/-- at the head of the bytes' loop -/
def BXL (w : World) (n : Int) (s : ByteArray) (v6 v7 : Value) (wr : World) : Prop := ∃ (i : Nat) (t : ByteArray), v6 = .string t ∧ v7 = .int .i64 (i : Int) ∧ i ≤ s.size ∧ t.data.toList = hexL (s.data.toList.take i) ∧ wr.heap[w.heap.size]? = some (.cells #[.int .i64 5, .int .i64 n, .string s] 24 (0, 0)) ∧ Below w.heap.size w wr
theorem bxl_size {s t : ByteArray} {i : Nat} (hi : i ≤ s.size) (h : t.data.toList = hexL (s.data.toList.take i)) : t.size ≤ 2 * s.size := by
  have h1 := hexL_len (s.data.toList.take i)
  rw [← h, list_size, List.length_take, list_size] at h1
  omega
theorem take_snoc {s : ByteArray} {i : Nat} (h : i < s.size) : s.data.toList.take (i + 1) = s.data.toList.take i ++ [s[i]'h] := by
  have h2 : i < s.data.toList.length := by rw [list_size]; exact h
  rw [List.take_add_one, List.getElem?_eq_getElem h2, Option.toList_some]
  rfl
theorem take_all (s : ByteArray) : s.data.toList.take s.size = s.data.toList := List.take_of_length_le (by rw [list_size]; exact Nat.le_refl _)
section
variable {k n : Int} {s : ByteArray}
set_option maxRecDepth 100000 in
set_option maxHeartbeats 8000000 in
theorem refText_no (hok : i64ok n) (hl : s.size ≤ 9223372036854775807) (hr : rightB ⟨k, n, s⟩ = false) (w : World) : Calls Tryz.prog 19 #[.agg #[.int .i64 k, .int .i64 n, .string s]] w (Ans (.string (textS ⟨k, n, s⟩)) w) := by
  have HT : Hid (textS ⟨k, n, s⟩ = ⟨#[63]⟩) := Lib.hid (by unfold textS; rw [if_pos hr])
  rw [HT.out]
  have RR := Lib.hid (refRight_any ⟨k, n, s⟩ hl)
  rw [hr] at RR
  have SZ := Lib.hid (refSize_any n hok)
  have HX := Lib.hid (heap_alloc_new w (.cells #[.int .i64 k, .int .i64 n, .string s] 24))
  have HB := Lib.hid (alloc_below w (.cells #[.int .i64 k, .int .i64 n, .string s] 24))
  simp only at RR
  clear hok hl hr HT
  go_enter Tryz.func19, Tryz.ntmps19
  go_wp2_with (first
    | (go_at_call 24; refine (RR.out _).mono ?_; rintro e w2 ⟨rfl, hb⟩; obtain ⟨x0, x1, x2⟩ := box3 ((hb.block _ (by simp)).trans HX.out); have HB := Lib.hid (HB.out.trans (hb.mono HB.out.size)); clear hb)
    | (go_at_call 36; refine (SZ.out _).mono ?_; rintro e w3 ⟨rfl, rfl⟩))
  go_ret
  exact ⟨rfl, HB.out⟩
set_option maxRecDepth 100000 in
set_option maxHeartbeats 8000000 in
theorem refText_01 (hk : (k = 0 ∧ n = 0) ∨ (k = 1 ∧ (n = 0 ∨ n = 1))) (w : World) : Calls Tryz.prog 19 #[.agg #[.int .i64 k, .int .i64 n, .string ⟨#[]⟩]] w (Ans (.string (textS ⟨k, n, ⟨#[]⟩⟩)) w) := by
  rcases hk with ⟨rfl, rfl⟩ | ⟨rfl, rfl | rfl⟩
  · have RR : Hid (∀ w, Calls Tryz.prog 24 #[.agg #[.int .i64 0, .int .i64 0, .string ⟨#[]⟩]] w (Ans (.bool true) w)) := Lib.hid (refRight_any ⟨0, 0, ⟨#[]⟩⟩ (Nat.zero_le _))
    have SZ := Lib.hid (refSize_any 0 (by unfold i64ok; omega))
    have HX := Lib.hid (heap_alloc_new w (.cells #[.int .i64 0, .int .i64 0, .string ⟨#[]⟩] 24))
    have HB := Lib.hid (alloc_below w (.cells #[.int .i64 0, .int .i64 0, .string ⟨#[]⟩] 24))
    go_enter Tryz.func19, Tryz.ntmps19
    go_wp2_with (first
      | (go_at_call 24; refine (RR.out _).mono ?_; rintro e w2 ⟨rfl, hb⟩; obtain ⟨x0, x1, x2⟩ := box3 ((hb.block _ (by simp)).trans HX.out); have HB := Lib.hid (HB.out.trans (hb.mono HB.out.size)); clear hb)
      | (go_at_call 36; refine (SZ.out _).mono ?_; rintro e w3 ⟨rfl, rfl⟩))
    go_ret
    exact ⟨rfl, HB.out⟩
  · have RR : Hid (∀ w, Calls Tryz.prog 24 #[.agg #[.int .i64 1, .int .i64 0, .string ⟨#[]⟩]] w (Ans (.bool true) w)) := Lib.hid (refRight_any ⟨1, 0, ⟨#[]⟩⟩ (Nat.zero_le _))
    have SZ := Lib.hid (refSize_any 0 (by unfold i64ok; omega))
    have HX := Lib.hid (heap_alloc_new w (.cells #[.int .i64 1, .int .i64 0, .string ⟨#[]⟩] 24))
    have HB := Lib.hid (alloc_below w (.cells #[.int .i64 1, .int .i64 0, .string ⟨#[]⟩] 24))
    go_enter Tryz.func19, Tryz.ntmps19
    go_wp2_with (first
      | (go_at_call 24; refine (RR.out _).mono ?_; rintro e w2 ⟨rfl, hb⟩; obtain ⟨x0, x1, x2⟩ := box3 ((hb.block _ (by simp)).trans HX.out); have HB := Lib.hid (HB.out.trans (hb.mono HB.out.size)); clear hb)
      | (go_at_call 36; refine (SZ.out _).mono ?_; rintro e w3 ⟨rfl, rfl⟩))
    go_ret
    exact ⟨rfl, HB.out⟩
  · have RR : Hid (∀ w, Calls Tryz.prog 24 #[.agg #[.int .i64 1, .int .i64 1, .string ⟨#[]⟩]] w (Ans (.bool true) w)) := Lib.hid (refRight_any ⟨1, 1, ⟨#[]⟩⟩ (Nat.zero_le _))
    have SZ := Lib.hid (refSize_any 1 (by unfold i64ok; omega))
    have HX := Lib.hid (heap_alloc_new w (.cells #[.int .i64 1, .int .i64 1, .string ⟨#[]⟩] 24))
    have HB := Lib.hid (alloc_below w (.cells #[.int .i64 1, .int .i64 1, .string ⟨#[]⟩] 24))
    go_enter Tryz.func19, Tryz.ntmps19
    go_wp2_with (first
      | (go_at_call 24; refine (RR.out _).mono ?_; rintro e w2 ⟨rfl, hb⟩; obtain ⟨x0, x1, x2⟩ := box3 ((hb.block _ (by simp)).trans HX.out); have HB := Lib.hid (HB.out.trans (hb.mono HB.out.size)); clear hb)
      | (go_at_call 36; refine (SZ.out _).mono ?_; rintro e w3 ⟨rfl, rfl⟩))
    go_ret
    exact ⟨rfl, HB.out⟩
set_option maxRecDepth 100000 in
set_option maxHeartbeats 8000000 in
theorem refText_2 (hn : i64ok n) (w : World) : Calls Tryz.prog 19 #[.agg #[.int .i64 2, .int .i64 n, .string ⟨#[]⟩]] w (Ans (.string (textS ⟨2, n, ⟨#[]⟩⟩)) w) := by
  have RR : Hid (∀ w, Calls Tryz.prog 24 #[.agg #[.int .i64 2, .int .i64 n, .string ⟨#[]⟩]] w (Ans (.bool true) w)) := Lib.hid (refRight_any ⟨2, n, ⟨#[]⟩⟩ (Nat.zero_le _))
  have HT : Hid ((textS ⟨2, n, ⟨#[]⟩⟩).data.toList = signL n ++ Lib.decDigits n.natAbs) := Lib.hid (by
    have hr : rightB ⟨2, n, ⟨#[]⟩⟩ = true := by unfold rightB; rfl
    unfold textS
    rw [if_neg (by rw [hr]; decide), if_neg (by simp), if_neg (by simp), if_pos rfl, bapp]
    rfl)
  have hu : n.natAbs < 18446744073709551616 := by unfold i64ok at hn; omega
  have SZ := Lib.hid (refSize_any n hn)
  have DG1 : Hid (∀ w, Calls Tryz.prog 37 #[.int .u64 (n.natAbs : Int), .int .i64 1] w fun e w' => (∃ s : ByteArray, e = .returned (.string s) ∧ s.data.toList = padD 1 n.natAbs) ∧ w = w') := Lib.hid (refDigits_any n.natAbs 1 hu (by omega) (by omega))
  have HP := Lib.hid (padD_len (least := 1) hu (by omega))
  obtain ⟨sg, hsg⟩ : ∃ sg : ByteArray, Hid (sg = ⟨(signL n).toArray⟩) := ⟨_, Lib.hid rfl⟩
  rw [← hsg.out] at SZ
  have hsz : sg.size ≤ 1 := by rw [hsg.out]; exact signL_size n
  have HX := Lib.hid (heap_alloc_new w (.cells #[.int .i64 2, .int .i64 n, .string ⟨#[]⟩] 24))
  have HB := Lib.hid (alloc_below w (.cells #[.int .i64 2, .int .i64 n, .string ⟨#[]⟩] 24))
  clear hn hu
  generalize textS ⟨2, n, ⟨#[]⟩⟩ = res at HT ⊢
  generalize n.natAbs = u at SZ DG1 HT HP
  go_enter Tryz.func19, Tryz.ntmps19
  go_wp2_with (first
    | (go_at_call 24; refine (RR.out _).mono ?_; rintro e w2 ⟨rfl, hb⟩; obtain ⟨x0, x1, x2⟩ := box3 ((hb.block _ (by simp)).trans HX.out); have HB := Lib.hid (HB.out.trans (hb.mono HB.out.size)); clear hb)
    | (go_at_call 36; refine (SZ.out _).mono ?_; rintro e w3 ⟨rfl, rfl⟩)
    | (go_at_call 37; (with_reducible refine (DG1.out _).mono ?_); rintro e w4 ⟨⟨t, rfl, ht⟩, rfl⟩
       have HTT := Lib.hid ht
       have hts : t.size ≤ 24 := by rw [← list_size, ht]; exact HP.out
       have hsum : ¬ 9223372036854775807 < sg.size + t.size := by omega
       clear ht))
  go_ret
  exact ⟨ret_strE (by rw [bapp, HTT.out, HT.out, hsg.out, padD_1]), HB.out⟩
set_option maxRecDepth 100000 in
set_option maxHeartbeats 8000000 in
theorem refText_3 (hn : i64ok n) (w : World) : Calls Tryz.prog 19 #[.agg #[.int .i64 3, .int .i64 n, .string ⟨#[]⟩]] w (Ans (.string (textS ⟨3, n, ⟨#[]⟩⟩)) w) := by
  have RR : Hid (∀ w, Calls Tryz.prog 24 #[.agg #[.int .i64 3, .int .i64 n, .string ⟨#[]⟩]] w (Ans (.bool true) w)) := Lib.hid (refRight_any ⟨3, n, ⟨#[]⟩⟩ (Nat.zero_le _))
  have HT : Hid ((textS ⟨3, n, ⟨#[]⟩⟩).data.toList = signL n ++ Lib.decDigits (n.natAbs / 10000) ++ (46 :: padD 4 (n.natAbs % 10000))) := Lib.hid (by
    have hr : rightB ⟨3, n, ⟨#[]⟩⟩ = true := by unfold rightB; rfl
    unfold textS
    rw [if_neg (by rw [hr]; decide), if_neg (by simp), if_neg (by simp), if_neg (by simp), if_pos rfl, bapp, bapp, bapp]
    rfl)
  have hu : n.natAbs < 18446744073709551616 := by unfold i64ok at hn; omega
  have SZ := Lib.hid (refSize_any n hn)
  obtain ⟨a, ha⟩ : ∃ a : Nat, Hid (a = n.natAbs / 10000) := ⟨_, Lib.hid rfl⟩
  obtain ⟨b, hb⟩ : ∃ b : Nat, Hid (b = n.natAbs % 10000) := ⟨_, Lib.hid rfl⟩
  have ea : IntKind.u64.wrap ((n.natAbs : Int) / 10000) = (a : Int) := by rw [ha.out, IntKind.wrap_u64]; omega
  have eb : ((n.natAbs : Int) % 10000) = (b : Int) := by rw [hb.out]; omega
  have DG1 : Hid (∀ w, Calls Tryz.prog 37 #[.int .u64 (a : Int), .int .i64 1] w fun e w' => (∃ s : ByteArray, e = .returned (.string s) ∧ s.data.toList = padD 1 a) ∧ w = w') := Lib.hid (refDigits_any a 1 (by rw [ha.out]; omega) (by omega) (by omega))
  have DG4 : Hid (∀ w, Calls Tryz.prog 37 #[.int .u64 (b : Int), .int .i64 4] w fun e w' => (∃ s : ByteArray, e = .returned (.string s) ∧ s.data.toList = padD 4 b) ∧ w = w') := Lib.hid (refDigits_any b 4 (by rw [hb.out]; omega) (by omega) (by omega))
  have HP1 := Lib.hid (padD_len (least := 1) (u := a) (by rw [ha.out]; omega) (by omega))
  have HP4 := Lib.hid (padD_len (least := 4) (u := b) (by rw [hb.out]; omega) (by omega))
  rw [← ha.out, ← hb.out] at HT
  obtain ⟨sg, hsg⟩ : ∃ sg : ByteArray, Hid (sg = ⟨(signL n).toArray⟩) := ⟨_, Lib.hid rfl⟩
  rw [← hsg.out] at SZ
  have hsz : sg.size ≤ 1 := by rw [hsg.out]; exact signL_size n
  have HX := Lib.hid (heap_alloc_new w (.cells #[.int .i64 3, .int .i64 n, .string ⟨#[]⟩] 24))
  have HB := Lib.hid (alloc_below w (.cells #[.int .i64 3, .int .i64 n, .string ⟨#[]⟩] 24))
  have hu64 : (n.natAbs : Int) < 18446744073709551616 := by omega
  clear hn hu
  generalize textS ⟨3, n, ⟨#[]⟩⟩ = res at HT ⊢
  clear ha hb
  generalize n.natAbs = u at SZ ea eb hu64
  go_enter Tryz.func19, Tryz.ntmps19
  go_wp2_with (first
    | (go_at_call 24; refine (RR.out _).mono ?_; rintro e w2 ⟨rfl, hb⟩; obtain ⟨x0, x1, x2⟩ := box3 ((hb.block _ (by simp)).trans HX.out); have HB := Lib.hid (HB.out.trans (hb.mono HB.out.size)); clear hb)
    | (go_at_call 36; refine (SZ.out _).mono ?_; rintro e w3 ⟨rfl, rfl⟩)
    | (go_at_call 37; (with_reducible refine (DG1.out _).mono ?_); rintro e w4 ⟨⟨t, rfl, ht⟩, rfl⟩
       have HTT := Lib.hid ht
       have hts : t.size ≤ 24 := by rw [← list_size, ht]; exact HP1.out
       have hsum : ¬ 9223372036854775807 < sg.size + t.size := by omega
       have hsum2 : ¬ 9223372036854775807 < sg.size + t.size + 1 := by omega
       clear ht)
    | (go_at_call 37; (with_reducible refine (DG4.out _).mono ?_); rintro e w5 ⟨⟨q, rfl, hq⟩, rfl⟩
       have HQ := Lib.hid hq
       have hqs : q.size ≤ 24 := by rw [← list_size, hq]; exact HP4.out
       have hsum3 : ¬ 9223372036854775807 < sg.size + t.size + 1 + q.size := by omega
       clear hq))
  go_ret
  exact ⟨ret_strE (by rw [bapp, bapp, bapp, HTT.out, HQ.out, HT.out, hsg.out, padD_1]; simp), HB.out⟩
set_option maxRecDepth 100000 in
set_option maxHeartbeats 8000000 in
theorem refText_4 (hs : s.size ≤ 200) (w : World) : Calls Tryz.prog 19 #[.agg #[.int .i64 4, .int .i64 0, .string s]] w (Ans (.string (textS ⟨4, 0, s⟩)) w) := by
  have hr : rightB ⟨4, 0, s⟩ = true := by unfold rightB; simp [hs]
  have RR : Hid (∀ w, Calls Tryz.prog 24 #[.agg #[.int .i64 4, .int .i64 0, .string s]] w (Ans (.bool true) w)) := Lib.hid (by
    have h := refRight_any ⟨4, 0, s⟩ (by show s.size ≤ _; omega)
    rw [hr] at h
    exact h)
  have HT : Hid ((textS ⟨4, 0, s⟩).data.toList = 39 :: (dbl s.data.toList ++ [39])) := Lib.hid (by
    unfold textS
    rw [if_neg (by rw [hr]; decide), if_neg (by simp), if_neg (by simp), if_neg (by simp), if_neg (by simp), if_pos rfl, bapp, bapp]
    rfl)
  have SZ := Lib.hid (refSize_any 0 (by unfold i64ok; omega))
  have HX := Lib.hid (heap_alloc_new w (.cells #[.int .i64 4, .int .i64 0, .string s] 24))
  have HB := Lib.hid (alloc_below w (.cells #[.int .i64 4, .int .i64 0, .string s] 24))
  have hsi : (s.size : Int) ≤ 200 := by omega
  have HSS := Lib.hid hs
  clear hr hs
  generalize textS ⟨4, 0, s⟩ = res at HT ⊢
  go_enter Tryz.func19, Tryz.ntmps19
  go_wp2_with (first
    | (go_at_call 24; refine (RR.out _).mono ?_; rintro e w2 ⟨rfl, hb⟩; have hxx := (hb.block _ (by simp)).trans HX.out; have HST : Hid (TXL w 0 s (.string ⟨#[]⟩) (.int .i64 0) w2) := Lib.hid ⟨0, _, rfl, rfl, Nat.zero_le _, rfl, hxx, HB.out.trans (hb.mono HB.out.size)⟩; obtain ⟨x0, x1, x2⟩ := box3 hxx; clear hb hxx)
    | (go_at_call 36; refine (SZ.out _).mono ?_; rintro e w3 ⟨rfl, rfl⟩))
  clear x0 x1 x2
  go_loopw [6, 8] (fun v6 v8 wr => TXL w 0 s v6 v8 wr) (fun _ v8 _ => s.size - (intOf v8).toNat)
  case atStart => exact HST.out
  case round =>
    obtain ⟨i, t, rfl, rfl, hi, ht, hx, hb⟩ := hrel
    obtain ⟨x0, x1, x2⟩ := box3 hx
    have HXX := Lib.hid hx
    have HBB := Lib.hid hb
    have hts := txl_size hi ht
    have HTT := Lib.hid ht
    clear hx hb ht
    by_cases hlt : i < s.size
    · have hki : (i : Int) < (s.size : Int) := by omega
      have hc1 : ¬ 9223372036854775807 < t.size + 1 := by have := HSS.out; omega
      have hc2 : ¬ 9223372036854775807 < t.size + 1 + 1 := by have := HSS.out; omega
      have HN : Hid (∀ (v6 v8 : Value) (q : ByteArray) (W : World), v6 = .string q → v8 = .int .i64 ((i + 1 : Nat) : Int) → q.data.toList = t.data.toList ++ (if s[i]'hlt = 39 then [39, 39] else [s[i]'hlt]) → Below wr.heap.size wr W → TXL w 0 s v6 v8 W) := Lib.hid fun v6 v8 q W e6 e8 eq hW =>
        ⟨i + 1, q, e6, e8, hlt, by rw [eq, HTT.out, take_snoc hlt, dbl_snoc], (hW.block _ (Array.getElem?_eq_some_iff.1 HXX.out).1).trans HXX.out, HBB.out.trans (hW.mono HBB.out.size)⟩
      by_cases h39 : s[i]'hlt = 39
      · have hz : (((s[i]'hlt).toNat : Int) == 39) = true := by rw [h39]; rfl
        have HC := Lib.hid (cut_one s i hlt)
        rw [if_pos h39] at HN
        have H39 := Lib.hid h39
        clear hi h39
        go_wp2_with fail
        go_roundw
        case rel => exact HN.out _ _ _ _ rfl (by go_num) (by rw [bapp, bapp, HC.out, H39.out]; simp) (by first | exact Below.refl _ _ | exact drewN_below _ _)
        case measure => simp [intOf]; omega
      · have hz : (((s[i]'hlt).toNat : Int) == 39) = false := by
          refine beq_false_of_ne fun e => h39 (UInt8.toNat_inj.1 ?_)
          have e1 : (39 : UInt8).toNat = 39 := rfl
          rw [e1]; omega
        have HC := Lib.hid (cut_one s i hlt)
        rw [if_neg h39] at HN
        clear hi h39
        go_wp2_with fail
        go_roundw
        case rel => exact HN.out _ _ _ _ rfl (by go_num) (by rw [bapp, HC.out]) (by first | exact Below.refl _ _ | exact drewN_below _ _)
        case measure => simp [intOf]; omega
    · obtain rfl : i = s.size := by omega
      have HA : Hid (t.data.toList = dbl s.data.toList) := Lib.hid (by rw [HTT.out, take_all])
      have hnlt : ¬ (s.size : Int) < (s.size : Int) := by omega
      have hc1 : ¬ 9223372036854775807 < 1 + t.size := by have := HSS.out; omega
      have hc2 : ¬ 9223372036854775807 < 1 + t.size + 1 := by have := HSS.out; omega
      clear hi hlt
      go_wp2_with fail
      go_ret
      exact ⟨ret_strE (by rw [bapp, bapp, HA.out, HT.out]; rfl), HBB.out⟩
set_option maxRecDepth 100000 in
set_option maxHeartbeats 8000000 in
theorem refText_5 (hs : s.size ≤ 200) (w : World) : Calls Tryz.prog 19 #[.agg #[.int .i64 5, .int .i64 0, .string s]] w (Ans (.string (textS ⟨5, 0, s⟩)) w) := by
  have hr : rightB ⟨5, 0, s⟩ = true := by unfold rightB; simp [hs]
  have RR : Hid (∀ w, Calls Tryz.prog 24 #[.agg #[.int .i64 5, .int .i64 0, .string s]] w (Ans (.bool true) w)) := Lib.hid (by
    have h := refRight_any ⟨5, 0, s⟩ (by show s.size ≤ _; omega)
    rw [hr] at h
    exact h)
  have HT : Hid ((textS ⟨5, 0, s⟩).data.toList = 120 :: 39 :: (hexL s.data.toList ++ [39])) := Lib.hid (by
    unfold textS
    rw [if_neg (by rw [hr]; decide), if_neg (by simp), if_neg (by simp), if_neg (by simp), if_neg (by simp), if_neg (by simp), bapp, bapp]
    rfl)
  have SZ := Lib.hid (refSize_any 0 (by unfold i64ok; omega))
  have HX := Lib.hid (heap_alloc_new w (.cells #[.int .i64 5, .int .i64 0, .string s] 24))
  have HB := Lib.hid (alloc_below w (.cells #[.int .i64 5, .int .i64 0, .string s] 24))
  have hsi : (s.size : Int) ≤ 200 := by omega
  have HSS := Lib.hid hs
  clear hr hs
  generalize textS ⟨5, 0, s⟩ = res at HT ⊢
  go_enter Tryz.func19, Tryz.ntmps19
  go_wp2_with (first
    | (go_at_call 24; refine (RR.out _).mono ?_; rintro e w2 ⟨rfl, hb⟩; have hxx := (hb.block _ (by simp)).trans HX.out; have HST : Hid (BXL w 0 s (.string ⟨#[]⟩) (.int .i64 0) w2) := Lib.hid ⟨0, _, rfl, rfl, Nat.zero_le _, rfl, hxx, HB.out.trans (hb.mono HB.out.size)⟩; obtain ⟨x0, x1, x2⟩ := box3 hxx; clear hb hxx)
    | (go_at_call 36; refine (SZ.out _).mono ?_; rintro e w3 ⟨rfl, rfl⟩))
  clear x0 x1 x2
  go_loopw [6, 7] (fun v6 v7 wr => BXL w 0 s v6 v7 wr) (fun _ v7 _ => s.size - (intOf v7).toNat)
  case atStart => exact HST.out
  case round =>
    obtain ⟨i, t, rfl, rfl, hi, ht, hx, hb⟩ := hrel
    obtain ⟨x0, x1, x2⟩ := box3 hx
    have HXX := Lib.hid hx
    have HBB := Lib.hid hb
    have hts := bxl_size hi ht
    have HTT := Lib.hid ht
    clear hx hb ht
    by_cases hlt : i < s.size
    · have hki : (i : Int) < (s.size : Int) := by omega
      have hc1 : ¬ 9223372036854775807 < t.size + 1 := by have := HSS.out; omega
      have hc2 : ¬ 9223372036854775807 < t.size + 1 + 1 := by have := HSS.out; omega
      have hc256 : ((s[i]'hlt).toNat : Int) < 256 := by have := (s[i]'hlt).toNat_lt; omega
      have HN : Hid (∀ (v6 v8 : Value) (q : ByteArray) (W : World), v6 = .string q → v8 = .int .i64 ((i + 1 : Nat) : Int) → q.data.toList = t.data.toList ++ [hexd ((s[i]'hlt).toNat / 16), hexd ((s[i]'hlt).toNat % 16)] → Below wr.heap.size wr W → BXL w 0 s v6 v8 W) := Lib.hid fun v6 v8 q W e6 e8 eq hW =>
        ⟨i + 1, q, e6, e8, hlt, by rw [eq, HTT.out, take_snoc hlt, hexL_snoc], (hW.block _ (Array.getElem?_eq_some_iff.1 HXX.out).1).trans HXX.out, HBB.out.trans (hW.mono HBB.out.size)⟩
      clear hi
      go_wp2_with fail
      go_quiet (fail)
      go_wp2_with fail
      go_roundw
      case rel => exact HN.out _ _ _ _ rfl (by go_num) (by rw [bapp, bapp, hex_str _ (by omega), hex_str _ (by omega)]; simp) (by first | exact Below.refl _ _ | exact drewN_below _ _)
      case measure => simp [intOf]; omega
    · obtain rfl : i = s.size := by omega
      have HA : Hid (t.data.toList = hexL s.data.toList) := Lib.hid (by rw [HTT.out, take_all])
      have hnlt : ¬ (s.size : Int) < (s.size : Int) := by omega
      have hc1 : ¬ 9223372036854775807 < 2 + t.size := by have := HSS.out; omega
      have hc2 : ¬ 9223372036854775807 < 2 + t.size + 1 := by have := HSS.out; omega
      clear hi hlt
      go_wp2_with fail
      go_ret
      exact ⟨ret_strE (by rw [bapp, bapp, HA.out, HT.out]; rfl), HBB.out⟩
end
theorem refText_any (x : Val) (hok : x.ok) (hl : x.s.size ≤ 9223372036854775807) (w : World) : Calls Tryz.prog 19 #[.agg #[.int .i64 x.k, .int .i64 x.n, .string x.s]] w (Ans (.string (textS x)) w) := by
  cases hr : rightB x with
  | false => exact refText_no (k := x.k) (n := x.n) (s := x.s) hok.2 hl hr w
  | true =>
    have hc := Val.R.cases (x := x) ⟨hr, hok⟩
    obtain ⟨k, n, s⟩ := x
    simp only at hc ⊢
    rcases hc with ⟨rfl, rfl, rfl⟩ | ⟨rfl, hn, rfl⟩ | ⟨hk, rfl, hn⟩ | ⟨hk, rfl, hs⟩
    · exact refText_01 (.inl ⟨rfl, rfl⟩) w
    · exact refText_01 (.inr ⟨rfl, hn⟩) w
    · rcases hk with rfl | rfl
      · exact refText_2 hn w
      · exact refText_3 hn w
    · rcases hk with rfl | rfl
      · exact refText_4 hs w
      · exact refText_5 hs w
end Go.Proofs.YtneppncnccangaaGreatDoor
