/- Package key: a value's bytes, appended; a key's bytes. -/
import Derived.Test.YtjnjolhokcmmhaaKF
namespace Go.Proofs.Ytjnjolhokcmmhaa
open Go.RowKit

theorem num1 (B : Nat) (v : Value) (xs : List UInt8) (ui : Int) (u : Nat) (hui : ui = (u : Int)) (hu : u < 18446744073709551616) (w : World) (hown : OwnB w B v xs) (hB : B ≤ w.heap.size) (hx : xs.length ≤ 10000) :
    Calls Try.prog 49 #[v, .int .u64 ui, .int .i64 1] w (AppTo B w v (xs ++ be 1 u)) := by subst hui; exact appendNumber_1 B v xs u hu w hown hB hx
theorem num8 (B : Nat) (v : Value) (xs : List UInt8) (ui : Int) (u : Nat) (hui : ui = (u : Int)) (hu : u < 18446744073709551616) (w : World) (hown : OwnB w B v xs) (hB : B ≤ w.heap.size) (hx : xs.length ≤ 10000) :
    Calls Try.prog 49 #[v, .int .u64 ui, .int .i64 8] w (AppTo B w v (xs ++ be 8 u)) := by subst hui; exact appendNumber_8 B v xs u hu w hown hB hx
theorem off_64 {n : Int} (h : i64ok n) : offN n < 18446744073709551616 := by have := off_lt h; rw [pow8] at this; exact this
theorem off_wrap {n : Int} (h : i64ok n) : IntKind.u64.wrap (IntKind.u64.wrap n + 9223372036854775808) = (offN n : Int) := by
  unfold offN; obtain ⟨a, b⟩ := h; rw [IntKind.wrap_u64, IntKind.wrap_u64]; omega
set_option maxRecDepth 100000 in
set_option maxHeartbeats 4000000 in
theorem appendValue_any (B : Nat) (v : Value) (xs : List UInt8) (x : Val) (hR : x.R) (w : World) (hown : OwnB w B v xs) (hB : B ≤ w.heap.size) (hx : xs.length ≤ 9000) :
    Calls Try.prog 35 #[v, x.v] w (AppTo B w v (xs ++ enc1 x)) := by
  obtain ⟨i0, hi, hz0, hz1, hz2⟩ := info_parts info8
  obtain ⟨A, cap, hv, hcap⟩ := hown.2
  subst hv
  have hc := hR.cases
  obtain ⟨k, n, s⟩ := x
  simp only at hc
  have HO := Lib.hid hown
  have HX := Lib.hid hx
  have HB := Lib.hid hB
  have HBA := Lib.hid (alloc_below w (.cells #[.int .i64 k, .int .i64 n, .string s] 68))
  have HBX : Hid ((w.alloc (.cells #[.int .i64 k, .int .i64 n, .string s] 68)).heap[w.heap.size]? = some (.cells #[.int .i64 k, .int .i64 n, .string s] 68 (0, 0))) := Lib.hid (heap_alloc_new _ _)
  have HM1 : Hid (xs.length + 1 ≤ 1000000) := Lib.hid (by omega)
  have HBZ : Hid (∀ o p, B ≤ ((w.alloc o).alloc p).heap.size) := Lib.hid fun o p => by simp; omega
  unfold Val.v
  clear hown hx hB hR
  rcases hc with ⟨rfl, rfl, rfl⟩ | ⟨rfl, hn, rfl⟩ | ⟨hk, rfl, hn⟩ | ⟨hk, rfl, hs⟩
  · go_enter Try.func35, Try.ntmps35
    go_wp2_with (at_builtin
                 have h1 := HO.out.below (alloc2_below w (.cells #[.int .i64 0, .int .i64 0, .string ⟨#[]⟩] 68) (.cells #[.int .u8 0] 5))
                 have h2 := rd_one2 w (.cells #[.int .i64 0, .int .i64 0, .string ⟨#[]⟩] 68) 0 0 rfl
                 refine wpList_appB (xs := xs) (ys := [0]) (B := B) rfl _ _ 23 rfl Try.underlying23 hi hz0 hz1 hz2 rfl h1 rfl rfl h2 HM1.out (HBZ.out _ _) ?_
                 intro v5 w5 ho5 hg5
                 have HO5 := Lib.hid ho5
                 have HG5 := Lib.hid ((Grew.below (alloc2_below _ _ _)).trans hg5)
                 have HX5 := Lib.hid (box_kept HO.out (by exact HBX.out) hg5)
                 have HB5 : Hid (B ≤ w5.heap.size) := Lib.hid (Nat.le_trans HB.out HG5.out.by_.size)
                 obtain ⟨x0, x1, x2⟩ := box3 HX5.out
                 clear ho5 hg5 h1 h2)
    go_ret
    exact ⟨v5, rfl, HO5.out, HG5.out⟩
  · have HN : Hid (IntKind.u64.wrap n = ((n.toNat : Nat) : Int)) := Lib.hid (by rw [IntKind.wrap_u64]; rcases hn with rfl | rfl <;> rfl)
    have HL : Hid (n.toNat < 18446744073709551616) := Lib.hid (by rcases hn with rfl | rfl <;> simp)
    have HE : Hid (∀ q : List UInt8, (q ++ [1]) ++ be 1 n.toNat = q ++ enc1 ⟨1, n, ⟨#[]⟩⟩) := Lib.hid fun q => by simp [enc1, bodyL]
    clear hn
    go_enter Try.func35, Try.ntmps35
    go_wp2_with (first
      | (at_builtin
         have h1 := HO.out.below (alloc2_below w (.cells #[.int .i64 1, .int .i64 n, .string ⟨#[]⟩] 68) (.cells #[.int .u8 1] 5))
         have h2 := rd_one2 w (.cells #[.int .i64 1, .int .i64 n, .string ⟨#[]⟩] 68) 1 1 rfl
         refine wpList_appB (xs := xs) (ys := [1]) (B := B) rfl _ _ 23 rfl Try.underlying23 hi hz0 hz1 hz2 rfl h1 rfl rfl h2 HM1.out (HBZ.out _ _) ?_
         intro v5 w5 ho5 hg5
         have HO5 := Lib.hid ho5
         have HG5 := Lib.hid ((Grew.below (alloc2_below _ _ _)).trans hg5)
         have HX5 := Lib.hid (box_kept HO.out (by exact HBX.out) hg5)
         have HB5 : Hid (B ≤ w5.heap.size) := Lib.hid (Nat.le_trans HB.out HG5.out.by_.size)
         obtain ⟨x0, x1, x2⟩ := box3 HX5.out
         clear ho5 hg5 h1 h2)
      | (go_at_call 49; refine (num1 B _ _ _ n.toNat HN.out HL.out _ HO5.out HB5.out (by have := HX.out; rw [List.length_append]; simp; omega)).mono ?_; rintro e w6 ⟨v6, rfl, ho6, hg6⟩
         have HY : Hid (AppTo B w (.slice A xs.length cap) (xs ++ enc1 ⟨1, n, ⟨#[]⟩⟩) (.returned v6) w6) := Lib.hid ⟨v6, rfl, by rw [← HE.out]; exact ho6, HG5.out.trans hg6⟩
         clear ho6 hg6))
    go_ret
    exact HY.out
  · have HN := Lib.hid (off_wrap hn)
    have HL := Lib.hid (off_64 hn)
    clear hn
    rcases hk with rfl | rfl
    · have HE : Hid (∀ q : List UInt8, (q ++ [2]) ++ be 8 (offN n) = q ++ enc1 ⟨2, n, ⟨#[]⟩⟩) := Lib.hid fun q => by simp [enc1, bodyL]
      go_enter Try.func35, Try.ntmps35
      go_wp2_with (first
        | (at_builtin
           have h1 := HO.out.below (alloc2_below w (.cells #[.int .i64 2, .int .i64 n, .string ⟨#[]⟩] 68) (.cells #[.int .u8 2] 5))
           have h2 := rd_one2 w (.cells #[.int .i64 2, .int .i64 n, .string ⟨#[]⟩] 68) 2 2 rfl
           refine wpList_appB (xs := xs) (ys := [2]) (B := B) rfl _ _ 23 rfl Try.underlying23 hi hz0 hz1 hz2 rfl h1 rfl rfl h2 HM1.out (HBZ.out _ _) ?_
           intro v5 w5 ho5 hg5
           have HO5 := Lib.hid ho5
           have HG5 := Lib.hid ((Grew.below (alloc2_below _ _ _)).trans hg5)
           have HX5 := Lib.hid (box_kept HO.out (by exact HBX.out) hg5)
           have HB5 : Hid (B ≤ w5.heap.size) := Lib.hid (Nat.le_trans HB.out HG5.out.by_.size)
           obtain ⟨x0, x1, x2⟩ := box3 HX5.out
           clear ho5 hg5 h1 h2)
        | (go_at_call 49; refine (num8 B _ _ _ (offN n) HN.out HL.out _ HO5.out HB5.out (by have := HX.out; rw [List.length_append]; simp; omega)).mono ?_; rintro e w6 ⟨v6, rfl, ho6, hg6⟩
           have HY : Hid (AppTo B w (.slice A xs.length cap) (xs ++ enc1 ⟨2, n, ⟨#[]⟩⟩) (.returned v6) w6) := Lib.hid ⟨v6, rfl, by rw [← HE.out]; exact ho6, HG5.out.trans hg6⟩
           clear ho6 hg6))
      go_ret
      exact HY.out
    · have HE : Hid (∀ q : List UInt8, (q ++ [3]) ++ be 8 (offN n) = q ++ enc1 ⟨3, n, ⟨#[]⟩⟩) := Lib.hid fun q => by simp [enc1, bodyL]
      go_enter Try.func35, Try.ntmps35
      go_wp2_with (first
        | (at_builtin
           have h1 := HO.out.below (alloc2_below w (.cells #[.int .i64 3, .int .i64 n, .string ⟨#[]⟩] 68) (.cells #[.int .u8 3] 5))
           have h2 := rd_one2 w (.cells #[.int .i64 3, .int .i64 n, .string ⟨#[]⟩] 68) 3 3 rfl
           refine wpList_appB (xs := xs) (ys := [3]) (B := B) rfl _ _ 23 rfl Try.underlying23 hi hz0 hz1 hz2 rfl h1 rfl rfl h2 HM1.out (HBZ.out _ _) ?_
           intro v5 w5 ho5 hg5
           have HO5 := Lib.hid ho5
           have HG5 := Lib.hid ((Grew.below (alloc2_below _ _ _)).trans hg5)
           have HX5 := Lib.hid (box_kept HO.out (by exact HBX.out) hg5)
           have HB5 : Hid (B ≤ w5.heap.size) := Lib.hid (Nat.le_trans HB.out HG5.out.by_.size)
           obtain ⟨x0, x1, x2⟩ := box3 HX5.out
           clear ho5 hg5 h1 h2)
        | (go_at_call 49; refine (num8 B _ _ _ (offN n) HN.out HL.out _ HO5.out HB5.out (by have := HX.out; rw [List.length_append]; simp; omega)).mono ?_; rintro e w6 ⟨v6, rfl, ho6, hg6⟩
           have HY : Hid (AppTo B w (.slice A xs.length cap) (xs ++ enc1 ⟨3, n, ⟨#[]⟩⟩) (.returned v6) w6) := Lib.hid ⟨v6, rfl, by rw [← HE.out]; exact ho6, HG5.out.trans hg6⟩
           clear ho6 hg6))
      go_ret
      exact HY.out
  · have HS := Lib.hid hs
    clear hs
    rcases hk with rfl | rfl
    · have HE : Hid (∀ q : List UInt8, (q ++ [4]) ++ (stuffL s.data.toList ++ [0, 1]) = q ++ enc1 ⟨4, 0, s⟩) := Lib.hid fun q => by simp [enc1, bodyL]
      go_enter Try.func35, Try.ntmps35
      go_wp2_with (first
        | (at_builtin
           have h1 := HO.out.below (alloc2_below w (.cells #[.int .i64 4, .int .i64 0, .string s] 68) (.cells #[.int .u8 4] 5))
           have h2 := rd_one2 w (.cells #[.int .i64 4, .int .i64 0, .string s] 68) 4 4 rfl
           refine wpList_appB (xs := xs) (ys := [4]) (B := B) rfl _ _ 23 rfl Try.underlying23 hi hz0 hz1 hz2 rfl h1 rfl rfl h2 HM1.out (HBZ.out _ _) ?_
           intro v5 w5 ho5 hg5
           have HO5 := Lib.hid ho5
           have HG5 := Lib.hid ((Grew.below (alloc2_below _ _ _)).trans hg5)
           have HX5 := Lib.hid (box_kept HO.out (by exact HBX.out) hg5)
           have HB5 : Hid (B ≤ w5.heap.size) := Lib.hid (Nat.le_trans HB.out HG5.out.by_.size)
           obtain ⟨x0, x1, x2⟩ := box3 HX5.out
           clear ho5 hg5 h1 h2)
        | (go_at_call 50; refine (appendText_any B _ _ s (Nat.le_trans HS.out (by omega)) _ HO5.out HB5.out (by have := HX.out; rw [List.length_append]; simp; omega)).mono ?_; rintro e w6 ⟨v6, rfl, ho6, hg6⟩
           have HY : Hid (AppTo B w (.slice A xs.length cap) (xs ++ enc1 ⟨4, 0, s⟩) (.returned v6) w6) := Lib.hid ⟨v6, rfl, by rw [← HE.out]; exact ho6, HG5.out.trans hg6⟩
           clear ho6 hg6))
      go_ret
      exact HY.out
    · have HE : Hid (∀ q : List UInt8, (q ++ [5]) ++ (stuffL s.data.toList ++ [0, 1]) = q ++ enc1 ⟨5, 0, s⟩) := Lib.hid fun q => by simp [enc1, bodyL]
      go_enter Try.func35, Try.ntmps35
      go_wp2_with (first
        | (at_builtin
           have h1 := HO.out.below (alloc2_below w (.cells #[.int .i64 5, .int .i64 0, .string s] 68) (.cells #[.int .u8 5] 5))
           have h2 := rd_one2 w (.cells #[.int .i64 5, .int .i64 0, .string s] 68) 5 5 rfl
           refine wpList_appB (xs := xs) (ys := [5]) (B := B) rfl _ _ 23 rfl Try.underlying23 hi hz0 hz1 hz2 rfl h1 rfl rfl h2 HM1.out (HBZ.out _ _) ?_
           intro v5 w5 ho5 hg5
           have HO5 := Lib.hid ho5
           have HG5 := Lib.hid ((Grew.below (alloc2_below _ _ _)).trans hg5)
           have HX5 := Lib.hid (box_kept HO.out (by exact HBX.out) hg5)
           have HB5 : Hid (B ≤ w5.heap.size) := Lib.hid (Nat.le_trans HB.out HG5.out.by_.size)
           obtain ⟨x0, x1, x2⟩ := box3 HX5.out
           clear ho5 hg5 h1 h2)
        | (go_at_call 50; refine (appendText_any B _ _ s (Nat.le_trans HS.out (by omega)) _ HO5.out HB5.out (by have := HX.out; rw [List.length_append]; simp; omega)).mono ?_; rintro e w6 ⟨v6, rfl, ho6, hg6⟩
           have HY : Hid (AppTo B w (.slice A xs.length cap) (xs ++ enc1 ⟨5, 0, s⟩) (.returned v6) w6) := Lib.hid ⟨v6, rfl, by rw [← HE.out]; exact ho6, HG5.out.trans hg6⟩
           clear ho6 hg6))
      go_ret
      exact HY.out
end Go.Proofs.Ytjnjolhokcmmhaa
