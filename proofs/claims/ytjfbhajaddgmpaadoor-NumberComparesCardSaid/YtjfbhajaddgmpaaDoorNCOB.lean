/- The document's Compare, where Sign answers: <=, >, >=. -/
import Derived.Test.YtjfbhajaddgmpaaDoorNCO
namespace Go.Proofs.YtjfbhajaddgmpaaDoor
open Go.RowKit

set_option maxRecDepth 100000 in
set_option maxHeartbeats 8000000 in
theorem refC_num11 (op k n j m : Int) (s t : ByteArray) (g : Int) (hg : g = -1 ∨ g = 0 ∨ g = 1) (ho : op = 11) (RA : ∀ w, Calls Tryd.prog 18 #[.agg #[.int .i64 k, .int .i64 n, .string s]] w (Ans (.bool true) w)) (RB : ∀ w, Calls Tryd.prog 18 #[.agg #[.int .i64 j, .int .i64 m, .string t]] w (Ans (.bool true) w)) (k0 : (k == 0) = false) (j0 : (j == 0) = false) (SG : ∀ w, Calls Tryd.prog 8 #[.agg #[.int .i64 k, .int .i64 n, .string s], .agg #[.int .i64 j, .int .i64 m, .string t]] w (Ans (.tuple #[.int .i64 g, .agg #[.int .i64 0, .int .i64 (-1)]]) w)) (w : World) :
    Calls Tryd.prog 6 #[.int .i64 op, .agg #[.int .i64 k, .int .i64 n, .string s], .agg #[.int .i64 j, .int .i64 m, .string t]] w (Ans (.tuple #[.agg #[.int .i64 1, .int .i64 (if holdsB op g then 1 else 0), .string ⟨#[]⟩], .agg #[.int .i64 0, .int .i64 (-1)]]) w) := by
  have HX := Lib.hid (GC.new w k n s j m t)
  replace RA := Lib.hid RA
  replace RB := Lib.hid RB
  replace SG := Lib.hid SG
  have FN : Hid (∀ w, Calls Tryd.prog 19 #[] w (Ans (.agg #[.int .i64 0, .int .i64 (-1)]) w)) := Lib.hid refBig_fine
  have OY := Lib.hid refOf_yes
  have ON := Lib.hid refOf_no
  subst ho
  rcases hg with rfl | rfl | rfl
  all_goals
    have HX := HX
    obtain ⟨a0, a1, a2⟩ := box3 HX.out.a
    obtain ⟨b0, b1, b2⟩ := box3 HX.out.b
    obtain ⟨r0, r1, r2⟩ := box3 HX.out.r
    have z0 := frozen3 HX.out.r 0
    have z1 := frozen3 HX.out.r 1
    have z2 := frozen3 HX.out.r 2
    obtain ⟨f0, f1⟩ := box2 HX.out.f
    have y0 := frozen3 HX.out.f 0
    have y1 := frozen3 HX.out.f 1
    go_enter Tryd.func6, Tryd.ntmps6
    go_wp2_with (first
      | (go_at_call 18; first | ((with_reducible refine (RA.out _).mono ?_); rintro e w2 ⟨rfl, hb⟩) | ((with_reducible refine (RB.out _).mono ?_); rintro e w2 ⟨rfl, hb⟩)
         have HX := Lib.hid (HX.out.next hb)
         obtain ⟨a0, a1, a2⟩ := box3 HX.out.a
         obtain ⟨b0, b1, b2⟩ := box3 HX.out.b
         obtain ⟨r0, r1, r2⟩ := box3 HX.out.r
         have z0 := frozen3 HX.out.r 0
         have z1 := frozen3 HX.out.r 1
         have z2 := frozen3 HX.out.r 2
         obtain ⟨f0, f1⟩ := box2 HX.out.f
         have y0 := frozen3 HX.out.f 0
         have y1 := frozen3 HX.out.f 1
         clear hb)
      | (go_at_call 8; refine (SG.out _).mono ?_; rintro e w3 ⟨rfl, hb⟩
         have HS := Lib.hid (Nat.lt_of_lt_of_le HX.out.lt hb.size)
         have hq := heap_alloc_new w3 (.cells #[.int .i64 0, .int .i64 (-1)] 33)
         obtain ⟨q0, q1⟩ := box2 hq
         replace hb := hb.trans ((alloc_below w3 (.cells #[.int .i64 0, .int .i64 (-1)] 33)).mono hb.size)
         have HQ := Lib.hid hq
         clear hq
         have HX := Lib.hid (HX.out.next hb)
         obtain ⟨a0, a1, a2⟩ := box3 HX.out.a
         obtain ⟨b0, b1, b2⟩ := box3 HX.out.b
         obtain ⟨r0, r1, r2⟩ := box3 HX.out.r
         have z0 := frozen3 HX.out.r 0
         have z1 := frozen3 HX.out.r 1
         have z2 := frozen3 HX.out.r 2
         obtain ⟨f0, f1⟩ := box2 HX.out.f
         have y0 := frozen3 HX.out.f 0
         have y1 := frozen3 HX.out.f 1
         clear hb)
      | (go_at_call 20; first | ((with_reducible refine (OY.out _).mono ?_); rintro e w4 ⟨rfl, hb⟩) | ((with_reducible refine (ON.out _).mono ?_); rintro e w4 ⟨rfl, hb⟩)
         have HX := Lib.hid (HX.out.next hb)
         obtain ⟨a0, a1, a2⟩ := box3 HX.out.a
         obtain ⟨b0, b1, b2⟩ := box3 HX.out.b
         obtain ⟨r0, r1, r2⟩ := box3 HX.out.r
         have z0 := frozen3 HX.out.r 0
         have z1 := frozen3 HX.out.r 1
         have z2 := frozen3 HX.out.r 2
         obtain ⟨f0, f1⟩ := box2 HX.out.f
         have y0 := frozen3 HX.out.f 0
         have y1 := frozen3 HX.out.f 1
         clear hb)
      | (go_at_call 19; refine (FN.out _).mono ?_; rintro e w5 ⟨rfl, hb⟩
         have HX := Lib.hid (HX.out.next hb)
         obtain ⟨a0, a1, a2⟩ := box3 HX.out.a
         obtain ⟨b0, b1, b2⟩ := box3 HX.out.b
         obtain ⟨r0, r1, r2⟩ := box3 HX.out.r
         have z0 := frozen3 HX.out.r 0
         have z1 := frozen3 HX.out.r 1
         have z2 := frozen3 HX.out.r 2
         obtain ⟨f0, f1⟩ := box2 HX.out.f
         have y0 := frozen3 HX.out.f 0
         have y1 := frozen3 HX.out.f 1
         clear hb))
    first | exact bodyPost_ret (v := .tuple #[.agg #[.int .i64 1, .int .i64 1, .string ⟨#[]⟩], .agg #[.int .i64 0, .int .i64 (-1)]]) (by simp [results, Tryd.results6, go_sem, r0, r1, r2, f0, f1]) rfl ⟨rfl, set5_bel HX.out.bel (by omega) (by omega) _ _ _ _ _⟩ | exact bodyPost_ret (v := .tuple #[.agg #[.int .i64 1, .int .i64 0, .string ⟨#[]⟩], .agg #[.int .i64 0, .int .i64 (-1)]]) (by simp [results, Tryd.results6, go_sem, r0, r1, r2, f0, f1]) rfl ⟨rfl, set5_bel HX.out.bel (by omega) (by omega) _ _ _ _ _⟩
set_option maxRecDepth 100000 in
set_option maxHeartbeats 8000000 in
theorem refC_num12 (op k n j m : Int) (s t : ByteArray) (g : Int) (hg : g = -1 ∨ g = 0 ∨ g = 1) (ho : op = 12) (RA : ∀ w, Calls Tryd.prog 18 #[.agg #[.int .i64 k, .int .i64 n, .string s]] w (Ans (.bool true) w)) (RB : ∀ w, Calls Tryd.prog 18 #[.agg #[.int .i64 j, .int .i64 m, .string t]] w (Ans (.bool true) w)) (k0 : (k == 0) = false) (j0 : (j == 0) = false) (SG : ∀ w, Calls Tryd.prog 8 #[.agg #[.int .i64 k, .int .i64 n, .string s], .agg #[.int .i64 j, .int .i64 m, .string t]] w (Ans (.tuple #[.int .i64 g, .agg #[.int .i64 0, .int .i64 (-1)]]) w)) (w : World) :
    Calls Tryd.prog 6 #[.int .i64 op, .agg #[.int .i64 k, .int .i64 n, .string s], .agg #[.int .i64 j, .int .i64 m, .string t]] w (Ans (.tuple #[.agg #[.int .i64 1, .int .i64 (if holdsB op g then 1 else 0), .string ⟨#[]⟩], .agg #[.int .i64 0, .int .i64 (-1)]]) w) := by
  have HX := Lib.hid (GC.new w k n s j m t)
  replace RA := Lib.hid RA
  replace RB := Lib.hid RB
  replace SG := Lib.hid SG
  have FN : Hid (∀ w, Calls Tryd.prog 19 #[] w (Ans (.agg #[.int .i64 0, .int .i64 (-1)]) w)) := Lib.hid refBig_fine
  have OY := Lib.hid refOf_yes
  have ON := Lib.hid refOf_no
  subst ho
  rcases hg with rfl | rfl | rfl
  all_goals
    have HX := HX
    obtain ⟨a0, a1, a2⟩ := box3 HX.out.a
    obtain ⟨b0, b1, b2⟩ := box3 HX.out.b
    obtain ⟨r0, r1, r2⟩ := box3 HX.out.r
    have z0 := frozen3 HX.out.r 0
    have z1 := frozen3 HX.out.r 1
    have z2 := frozen3 HX.out.r 2
    obtain ⟨f0, f1⟩ := box2 HX.out.f
    have y0 := frozen3 HX.out.f 0
    have y1 := frozen3 HX.out.f 1
    go_enter Tryd.func6, Tryd.ntmps6
    go_wp2_with (first
      | (go_at_call 18; first | ((with_reducible refine (RA.out _).mono ?_); rintro e w2 ⟨rfl, hb⟩) | ((with_reducible refine (RB.out _).mono ?_); rintro e w2 ⟨rfl, hb⟩)
         have HX := Lib.hid (HX.out.next hb)
         obtain ⟨a0, a1, a2⟩ := box3 HX.out.a
         obtain ⟨b0, b1, b2⟩ := box3 HX.out.b
         obtain ⟨r0, r1, r2⟩ := box3 HX.out.r
         have z0 := frozen3 HX.out.r 0
         have z1 := frozen3 HX.out.r 1
         have z2 := frozen3 HX.out.r 2
         obtain ⟨f0, f1⟩ := box2 HX.out.f
         have y0 := frozen3 HX.out.f 0
         have y1 := frozen3 HX.out.f 1
         clear hb)
      | (go_at_call 8; refine (SG.out _).mono ?_; rintro e w3 ⟨rfl, hb⟩
         have HS := Lib.hid (Nat.lt_of_lt_of_le HX.out.lt hb.size)
         have hq := heap_alloc_new w3 (.cells #[.int .i64 0, .int .i64 (-1)] 33)
         obtain ⟨q0, q1⟩ := box2 hq
         replace hb := hb.trans ((alloc_below w3 (.cells #[.int .i64 0, .int .i64 (-1)] 33)).mono hb.size)
         have HQ := Lib.hid hq
         clear hq
         have HX := Lib.hid (HX.out.next hb)
         obtain ⟨a0, a1, a2⟩ := box3 HX.out.a
         obtain ⟨b0, b1, b2⟩ := box3 HX.out.b
         obtain ⟨r0, r1, r2⟩ := box3 HX.out.r
         have z0 := frozen3 HX.out.r 0
         have z1 := frozen3 HX.out.r 1
         have z2 := frozen3 HX.out.r 2
         obtain ⟨f0, f1⟩ := box2 HX.out.f
         have y0 := frozen3 HX.out.f 0
         have y1 := frozen3 HX.out.f 1
         clear hb)
      | (go_at_call 20; first | ((with_reducible refine (OY.out _).mono ?_); rintro e w4 ⟨rfl, hb⟩) | ((with_reducible refine (ON.out _).mono ?_); rintro e w4 ⟨rfl, hb⟩)
         have HX := Lib.hid (HX.out.next hb)
         obtain ⟨a0, a1, a2⟩ := box3 HX.out.a
         obtain ⟨b0, b1, b2⟩ := box3 HX.out.b
         obtain ⟨r0, r1, r2⟩ := box3 HX.out.r
         have z0 := frozen3 HX.out.r 0
         have z1 := frozen3 HX.out.r 1
         have z2 := frozen3 HX.out.r 2
         obtain ⟨f0, f1⟩ := box2 HX.out.f
         have y0 := frozen3 HX.out.f 0
         have y1 := frozen3 HX.out.f 1
         clear hb)
      | (go_at_call 19; refine (FN.out _).mono ?_; rintro e w5 ⟨rfl, hb⟩
         have HX := Lib.hid (HX.out.next hb)
         obtain ⟨a0, a1, a2⟩ := box3 HX.out.a
         obtain ⟨b0, b1, b2⟩ := box3 HX.out.b
         obtain ⟨r0, r1, r2⟩ := box3 HX.out.r
         have z0 := frozen3 HX.out.r 0
         have z1 := frozen3 HX.out.r 1
         have z2 := frozen3 HX.out.r 2
         obtain ⟨f0, f1⟩ := box2 HX.out.f
         have y0 := frozen3 HX.out.f 0
         have y1 := frozen3 HX.out.f 1
         clear hb))
    first | exact bodyPost_ret (v := .tuple #[.agg #[.int .i64 1, .int .i64 1, .string ⟨#[]⟩], .agg #[.int .i64 0, .int .i64 (-1)]]) (by simp [results, Tryd.results6, go_sem, r0, r1, r2, f0, f1]) rfl ⟨rfl, set5_bel HX.out.bel (by omega) (by omega) _ _ _ _ _⟩ | exact bodyPost_ret (v := .tuple #[.agg #[.int .i64 1, .int .i64 0, .string ⟨#[]⟩], .agg #[.int .i64 0, .int .i64 (-1)]]) (by simp [results, Tryd.results6, go_sem, r0, r1, r2, f0, f1]) rfl ⟨rfl, set5_bel HX.out.bel (by omega) (by omega) _ _ _ _ _⟩
set_option maxRecDepth 100000 in
set_option maxHeartbeats 8000000 in
theorem refC_num13 (op k n j m : Int) (s t : ByteArray) (g : Int) (hg : g = -1 ∨ g = 0 ∨ g = 1) (ho : op = 13) (RA : ∀ w, Calls Tryd.prog 18 #[.agg #[.int .i64 k, .int .i64 n, .string s]] w (Ans (.bool true) w)) (RB : ∀ w, Calls Tryd.prog 18 #[.agg #[.int .i64 j, .int .i64 m, .string t]] w (Ans (.bool true) w)) (k0 : (k == 0) = false) (j0 : (j == 0) = false) (SG : ∀ w, Calls Tryd.prog 8 #[.agg #[.int .i64 k, .int .i64 n, .string s], .agg #[.int .i64 j, .int .i64 m, .string t]] w (Ans (.tuple #[.int .i64 g, .agg #[.int .i64 0, .int .i64 (-1)]]) w)) (w : World) :
    Calls Tryd.prog 6 #[.int .i64 op, .agg #[.int .i64 k, .int .i64 n, .string s], .agg #[.int .i64 j, .int .i64 m, .string t]] w (Ans (.tuple #[.agg #[.int .i64 1, .int .i64 (if holdsB op g then 1 else 0), .string ⟨#[]⟩], .agg #[.int .i64 0, .int .i64 (-1)]]) w) := by
  have HX := Lib.hid (GC.new w k n s j m t)
  replace RA := Lib.hid RA
  replace RB := Lib.hid RB
  replace SG := Lib.hid SG
  have FN : Hid (∀ w, Calls Tryd.prog 19 #[] w (Ans (.agg #[.int .i64 0, .int .i64 (-1)]) w)) := Lib.hid refBig_fine
  have OY := Lib.hid refOf_yes
  have ON := Lib.hid refOf_no
  subst ho
  rcases hg with rfl | rfl | rfl
  all_goals
    have HX := HX
    obtain ⟨a0, a1, a2⟩ := box3 HX.out.a
    obtain ⟨b0, b1, b2⟩ := box3 HX.out.b
    obtain ⟨r0, r1, r2⟩ := box3 HX.out.r
    have z0 := frozen3 HX.out.r 0
    have z1 := frozen3 HX.out.r 1
    have z2 := frozen3 HX.out.r 2
    obtain ⟨f0, f1⟩ := box2 HX.out.f
    have y0 := frozen3 HX.out.f 0
    have y1 := frozen3 HX.out.f 1
    go_enter Tryd.func6, Tryd.ntmps6
    go_wp2_with (first
      | (go_at_call 18; first | ((with_reducible refine (RA.out _).mono ?_); rintro e w2 ⟨rfl, hb⟩) | ((with_reducible refine (RB.out _).mono ?_); rintro e w2 ⟨rfl, hb⟩)
         have HX := Lib.hid (HX.out.next hb)
         obtain ⟨a0, a1, a2⟩ := box3 HX.out.a
         obtain ⟨b0, b1, b2⟩ := box3 HX.out.b
         obtain ⟨r0, r1, r2⟩ := box3 HX.out.r
         have z0 := frozen3 HX.out.r 0
         have z1 := frozen3 HX.out.r 1
         have z2 := frozen3 HX.out.r 2
         obtain ⟨f0, f1⟩ := box2 HX.out.f
         have y0 := frozen3 HX.out.f 0
         have y1 := frozen3 HX.out.f 1
         clear hb)
      | (go_at_call 8; refine (SG.out _).mono ?_; rintro e w3 ⟨rfl, hb⟩
         have HS := Lib.hid (Nat.lt_of_lt_of_le HX.out.lt hb.size)
         have hq := heap_alloc_new w3 (.cells #[.int .i64 0, .int .i64 (-1)] 33)
         obtain ⟨q0, q1⟩ := box2 hq
         replace hb := hb.trans ((alloc_below w3 (.cells #[.int .i64 0, .int .i64 (-1)] 33)).mono hb.size)
         have HQ := Lib.hid hq
         clear hq
         have HX := Lib.hid (HX.out.next hb)
         obtain ⟨a0, a1, a2⟩ := box3 HX.out.a
         obtain ⟨b0, b1, b2⟩ := box3 HX.out.b
         obtain ⟨r0, r1, r2⟩ := box3 HX.out.r
         have z0 := frozen3 HX.out.r 0
         have z1 := frozen3 HX.out.r 1
         have z2 := frozen3 HX.out.r 2
         obtain ⟨f0, f1⟩ := box2 HX.out.f
         have y0 := frozen3 HX.out.f 0
         have y1 := frozen3 HX.out.f 1
         clear hb)
      | (go_at_call 20; first | ((with_reducible refine (OY.out _).mono ?_); rintro e w4 ⟨rfl, hb⟩) | ((with_reducible refine (ON.out _).mono ?_); rintro e w4 ⟨rfl, hb⟩)
         have HX := Lib.hid (HX.out.next hb)
         obtain ⟨a0, a1, a2⟩ := box3 HX.out.a
         obtain ⟨b0, b1, b2⟩ := box3 HX.out.b
         obtain ⟨r0, r1, r2⟩ := box3 HX.out.r
         have z0 := frozen3 HX.out.r 0
         have z1 := frozen3 HX.out.r 1
         have z2 := frozen3 HX.out.r 2
         obtain ⟨f0, f1⟩ := box2 HX.out.f
         have y0 := frozen3 HX.out.f 0
         have y1 := frozen3 HX.out.f 1
         clear hb)
      | (go_at_call 19; refine (FN.out _).mono ?_; rintro e w5 ⟨rfl, hb⟩
         have HX := Lib.hid (HX.out.next hb)
         obtain ⟨a0, a1, a2⟩ := box3 HX.out.a
         obtain ⟨b0, b1, b2⟩ := box3 HX.out.b
         obtain ⟨r0, r1, r2⟩ := box3 HX.out.r
         have z0 := frozen3 HX.out.r 0
         have z1 := frozen3 HX.out.r 1
         have z2 := frozen3 HX.out.r 2
         obtain ⟨f0, f1⟩ := box2 HX.out.f
         have y0 := frozen3 HX.out.f 0
         have y1 := frozen3 HX.out.f 1
         clear hb))
    first | exact bodyPost_ret (v := .tuple #[.agg #[.int .i64 1, .int .i64 1, .string ⟨#[]⟩], .agg #[.int .i64 0, .int .i64 (-1)]]) (by simp [results, Tryd.results6, go_sem, r0, r1, r2, f0, f1]) rfl ⟨rfl, set5_bel HX.out.bel (by omega) (by omega) _ _ _ _ _⟩ | exact bodyPost_ret (v := .tuple #[.agg #[.int .i64 1, .int .i64 0, .string ⟨#[]⟩], .agg #[.int .i64 0, .int .i64 (-1)]]) (by simp [results, Tryd.results6, go_sem, r0, r1, r2, f0, f1]) rfl ⟨rfl, set5_bel HX.out.bel (by omega) (by omega) _ _ _ _ _⟩
end Go.Proofs.YtjfbhajaddgmpaaDoor
