/- The document's Sign at any values. -/
import Derived.Test.YtjfbhajaddgmpaaDoorNCJ
import Derived.Test.YtjfbhajaddgmpaaDoorNCL
import Derived.Test.YtjfbhajaddgmpaaDoorRO
import Derived.Test.YtjfbhajaddgmpaaDoorRP
namespace Go.Proofs.YtjfbhajaddgmpaaDoor
open Go.RowKit

theorem kinds3 (k : Int) : k = 2 ∨ k = 3 ∨ ((k == 2) = false ∧ (k == 3) = false) := by simp; omega
set_option maxRecDepth 100000 in
set_option maxHeartbeats 4000000 in
theorem refS_bad0a (k n j m : Int) (s t : ByteArray) (b : Bool) (RA : ∀ w, Calls Tryd.prog 18 #[.agg #[.int .i64 k, .int .i64 n, .string s]] w (Ans (.bool false) w)) (RB : ∀ w, Calls Tryd.prog 18 #[.agg #[.int .i64 j, .int .i64 m, .string t]] w (Ans (.bool b) w)) (w : World) :
    Calls Tryd.prog 8 #[.agg #[.int .i64 k, .int .i64 n, .string s], .agg #[.int .i64 j, .int .i64 m, .string t]] w (Ans (.tuple #[.int .i64 0, .agg #[.int .i64 22, .int .i64 0]]) w) := by
  have HX := Lib.hid (GX.new w ⟨k, n, s⟩ ⟨j, m, t⟩)
  replace RA := Lib.hid RA
  replace RB := Lib.hid RB
  rcases kinds3 k with rfl | rfl | ⟨k2, k3⟩ <;> rcases kinds3 j with rfl | rfl | ⟨j2, j3⟩
  all_goals
    go_enter Tryd.func8, Tryd.ntmps8
    go_wp2_with (first
      | (go_at_call 18; first | ((with_reducible refine (RA.out _).mono ?_); rintro e w2 ⟨rfl, hb⟩) | ((with_reducible refine (RB.out _).mono ?_); rintro e w2 ⟨rfl, hb⟩)
         have HX := Lib.hid (HX.out.next hb)
         obtain ⟨a0, a1, a2⟩ := box3 HX.out.a
         obtain ⟨b0, b1, b2⟩ := box3 HX.out.b
         obtain ⟨r0, r1⟩ := box2 HX.out.r
         have z0 := frozen3 HX.out.r 0
         have z1 := frozen3 HX.out.r 1
         clear hb))
    exact bodyPost_ret (v := .tuple #[.int .i64 0, .agg #[.int .i64 22, .int .i64 0]]) (by simp [results, Tryd.results8, go_sem, r0, r1]) rfl ⟨rfl, set2_bel HX.out.bel (by omega) _ _⟩
set_option maxRecDepth 100000 in
set_option maxHeartbeats 4000000 in
theorem refS_bad0b (k n j m : Int) (s t : ByteArray) (b : Bool) (RA : ∀ w, Calls Tryd.prog 18 #[.agg #[.int .i64 k, .int .i64 n, .string s]] w (Ans (.bool true) w)) (RB : ∀ w, Calls Tryd.prog 18 #[.agg #[.int .i64 j, .int .i64 m, .string t]] w (Ans (.bool b) w)) (k0 : k = 0) (w : World) :
    Calls Tryd.prog 8 #[.agg #[.int .i64 k, .int .i64 n, .string s], .agg #[.int .i64 j, .int .i64 m, .string t]] w (Ans (.tuple #[.int .i64 0, .agg #[.int .i64 22, .int .i64 0]]) w) := by
  have HX := Lib.hid (GX.new w ⟨k, n, s⟩ ⟨j, m, t⟩)
  replace RA := Lib.hid RA
  replace RB := Lib.hid RB
  subst k0
  rcases kinds3 j with rfl | rfl | ⟨j2, j3⟩
  all_goals
    go_enter Tryd.func8, Tryd.ntmps8
    go_wp2_with (first
      | (go_at_call 18; first | ((with_reducible refine (RA.out _).mono ?_); rintro e w2 ⟨rfl, hb⟩) | ((with_reducible refine (RB.out _).mono ?_); rintro e w2 ⟨rfl, hb⟩)
         have HX := Lib.hid (HX.out.next hb)
         obtain ⟨a0, a1, a2⟩ := box3 HX.out.a
         obtain ⟨b0, b1, b2⟩ := box3 HX.out.b
         obtain ⟨r0, r1⟩ := box2 HX.out.r
         have z0 := frozen3 HX.out.r 0
         have z1 := frozen3 HX.out.r 1
         clear hb))
    exact bodyPost_ret (v := .tuple #[.int .i64 0, .agg #[.int .i64 22, .int .i64 0]]) (by simp [results, Tryd.results8, go_sem, r0, r1]) rfl ⟨rfl, set2_bel HX.out.bel (by omega) _ _⟩
set_option maxRecDepth 100000 in
set_option maxHeartbeats 4000000 in
theorem refS_bad1a (k n j m : Int) (s t : ByteArray) (RA : ∀ w, Calls Tryd.prog 18 #[.agg #[.int .i64 k, .int .i64 n, .string s]] w (Ans (.bool true) w)) (RB : ∀ w, Calls Tryd.prog 18 #[.agg #[.int .i64 j, .int .i64 m, .string t]] w (Ans (.bool false) w)) (k0 : (k == 0) = false) (w : World) :
    Calls Tryd.prog 8 #[.agg #[.int .i64 k, .int .i64 n, .string s], .agg #[.int .i64 j, .int .i64 m, .string t]] w (Ans (.tuple #[.int .i64 0, .agg #[.int .i64 22, .int .i64 1]]) w) := by
  have HX := Lib.hid (GX.new w ⟨k, n, s⟩ ⟨j, m, t⟩)
  replace RA := Lib.hid RA
  replace RB := Lib.hid RB
  rcases kinds3 k with rfl | rfl | ⟨k2, k3⟩ <;> rcases kinds3 j with rfl | rfl | ⟨j2, j3⟩
  all_goals
    go_enter Tryd.func8, Tryd.ntmps8
    go_wp2_with (first
      | (go_at_call 18; first | ((with_reducible refine (RA.out _).mono ?_); rintro e w2 ⟨rfl, hb⟩) | ((with_reducible refine (RB.out _).mono ?_); rintro e w2 ⟨rfl, hb⟩)
         have HX := Lib.hid (HX.out.next hb)
         obtain ⟨a0, a1, a2⟩ := box3 HX.out.a
         obtain ⟨b0, b1, b2⟩ := box3 HX.out.b
         obtain ⟨r0, r1⟩ := box2 HX.out.r
         have z0 := frozen3 HX.out.r 0
         have z1 := frozen3 HX.out.r 1
         clear hb))
    exact bodyPost_ret (v := .tuple #[.int .i64 0, .agg #[.int .i64 22, .int .i64 1]]) (by simp [results, Tryd.results8, go_sem, r0, r1]) rfl ⟨rfl, set2_bel HX.out.bel (by omega) _ _⟩
set_option maxRecDepth 100000 in
set_option maxHeartbeats 4000000 in
theorem refS_bad1b (k n j m : Int) (s t : ByteArray) (RA : ∀ w, Calls Tryd.prog 18 #[.agg #[.int .i64 k, .int .i64 n, .string s]] w (Ans (.bool true) w)) (RB : ∀ w, Calls Tryd.prog 18 #[.agg #[.int .i64 j, .int .i64 m, .string t]] w (Ans (.bool true) w)) (k0 : (k == 0) = false) (j0 : j = 0) (w : World) :
    Calls Tryd.prog 8 #[.agg #[.int .i64 k, .int .i64 n, .string s], .agg #[.int .i64 j, .int .i64 m, .string t]] w (Ans (.tuple #[.int .i64 0, .agg #[.int .i64 22, .int .i64 1]]) w) := by
  have HX := Lib.hid (GX.new w ⟨k, n, s⟩ ⟨j, m, t⟩)
  replace RA := Lib.hid RA
  replace RB := Lib.hid RB
  subst j0
  rcases kinds3 k with rfl | rfl | ⟨k2, k3⟩
  all_goals
    go_enter Tryd.func8, Tryd.ntmps8
    go_wp2_with (first
      | (go_at_call 18; first | ((with_reducible refine (RA.out _).mono ?_); rintro e w2 ⟨rfl, hb⟩) | ((with_reducible refine (RB.out _).mono ?_); rintro e w2 ⟨rfl, hb⟩)
         have HX := Lib.hid (HX.out.next hb)
         obtain ⟨a0, a1, a2⟩ := box3 HX.out.a
         obtain ⟨b0, b1, b2⟩ := box3 HX.out.b
         obtain ⟨r0, r1⟩ := box2 HX.out.r
         have z0 := frozen3 HX.out.r 0
         have z1 := frozen3 HX.out.r 1
         clear hb))
    exact bodyPost_ret (v := .tuple #[.int .i64 0, .agg #[.int .i64 22, .int .i64 1]]) (by simp [results, Tryd.results8, go_sem, r0, r1]) rfl ⟨rfl, set2_bel HX.out.bel (by omega) _ _⟩
set_option maxRecDepth 100000 in
set_option maxHeartbeats 4000000 in
theorem refS_bad1c (k n j m : Int) (s t : ByteArray) (RA : ∀ w, Calls Tryd.prog 18 #[.agg #[.int .i64 k, .int .i64 n, .string s]] w (Ans (.bool true) w)) (RB : ∀ w, Calls Tryd.prog 18 #[.agg #[.int .i64 j, .int .i64 m, .string t]] w (Ans (.bool true) w)) (k0 : (k == 0) = false) (j0 : (j == 0) = false) (k2 : (k == 2) = false) (k3 : (k == 3) = false) (kj : (k == j) = false) (w : World) :
    Calls Tryd.prog 8 #[.agg #[.int .i64 k, .int .i64 n, .string s], .agg #[.int .i64 j, .int .i64 m, .string t]] w (Ans (.tuple #[.int .i64 0, .agg #[.int .i64 22, .int .i64 1]]) w) := by
  have HX := Lib.hid (GX.new w ⟨k, n, s⟩ ⟨j, m, t⟩)
  replace RA := Lib.hid RA
  replace RB := Lib.hid RB
  have kj2 : ¬ k = j := by simpa using kj
  rcases kinds3 j with rfl | rfl | ⟨j2, j3⟩
  all_goals
    go_enter Tryd.func8, Tryd.ntmps8
    go_wp2_with (first
      | (go_at_call 18; first | ((with_reducible refine (RA.out _).mono ?_); rintro e w2 ⟨rfl, hb⟩) | ((with_reducible refine (RB.out _).mono ?_); rintro e w2 ⟨rfl, hb⟩)
         have HX := Lib.hid (HX.out.next hb)
         obtain ⟨a0, a1, a2⟩ := box3 HX.out.a
         obtain ⟨b0, b1, b2⟩ := box3 HX.out.b
         obtain ⟨r0, r1⟩ := box2 HX.out.r
         have z0 := frozen3 HX.out.r 0
         have z1 := frozen3 HX.out.r 1
         clear hb))
    exact bodyPost_ret (v := .tuple #[.int .i64 0, .agg #[.int .i64 22, .int .i64 1]]) (by simp [results, Tryd.results8, go_sem, r0, r1]) rfl ⟨rfl, set2_bel HX.out.bel (by omega) _ _⟩
set_option maxRecDepth 100000 in
set_option maxHeartbeats 4000000 in
theorem refS_bad1d (k n j m : Int) (s t : ByteArray) (RA : ∀ w, Calls Tryd.prog 18 #[.agg #[.int .i64 k, .int .i64 n, .string s]] w (Ans (.bool true) w)) (RB : ∀ w, Calls Tryd.prog 18 #[.agg #[.int .i64 j, .int .i64 m, .string t]] w (Ans (.bool true) w)) (hk : k = 2 ∨ k = 3) (j0 : (j == 0) = false) (j2 : (j == 2) = false) (j3 : (j == 3) = false) (w : World) :
    Calls Tryd.prog 8 #[.agg #[.int .i64 k, .int .i64 n, .string s], .agg #[.int .i64 j, .int .i64 m, .string t]] w (Ans (.tuple #[.int .i64 0, .agg #[.int .i64 22, .int .i64 1]]) w) := by
  have HX := Lib.hid (GX.new w ⟨k, n, s⟩ ⟨j, m, t⟩)
  replace RA := Lib.hid RA
  replace RB := Lib.hid RB
  have j2a : ((2 : Int) == j) = false := by simp at j2 ⊢; omega
  have j3a : ((3 : Int) == j) = false := by simp at j3 ⊢; omega
  have j2b : ¬ (2 : Int) = j := by simpa using j2a
  have j3b : ¬ (3 : Int) = j := by simpa using j3a
  rcases hk with rfl | rfl
  all_goals
    go_enter Tryd.func8, Tryd.ntmps8
    go_wp2_with (first
      | (go_at_call 18; first | ((with_reducible refine (RA.out _).mono ?_); rintro e w2 ⟨rfl, hb⟩) | ((with_reducible refine (RB.out _).mono ?_); rintro e w2 ⟨rfl, hb⟩)
         have HX := Lib.hid (HX.out.next hb)
         obtain ⟨a0, a1, a2⟩ := box3 HX.out.a
         obtain ⟨b0, b1, b2⟩ := box3 HX.out.b
         obtain ⟨r0, r1⟩ := box2 HX.out.r
         have z0 := frozen3 HX.out.r 0
         have z1 := frozen3 HX.out.r 1
         clear hb))
    exact bodyPost_ret (v := .tuple #[.int .i64 0, .agg #[.int .i64 22, .int .i64 1]]) (by simp [results, Tryd.results8, go_sem, r0, r1]) rfl ⟨rfl, set2_bel HX.out.bel (by omega) _ _⟩
set_option maxRecDepth 100000 in
set_option maxHeartbeats 4000000 in
theorem refS_ord (k n m : Int) (s t : ByteArray) (g : Int) (RA : ∀ w, Calls Tryd.prog 18 #[.agg #[.int .i64 k, .int .i64 n, .string s]] w (Ans (.bool true) w)) (RB : ∀ w, Calls Tryd.prog 18 #[.agg #[.int .i64 k, .int .i64 m, .string t]] w (Ans (.bool true) w)) (k0 : (k == 0) = false) (k2 : (k == 2) = false) (k3 : (k == 3) = false) (OR : ∀ w, Calls Tryd.prog 30 #[.agg #[.int .i64 k, .int .i64 n, .string s], .agg #[.int .i64 k, .int .i64 m, .string t]] w (Ans (.int .i64 g) w)) (w : World) :
    Calls Tryd.prog 8 #[.agg #[.int .i64 k, .int .i64 n, .string s], .agg #[.int .i64 k, .int .i64 m, .string t]] w (Ans (.tuple #[.int .i64 g, .agg #[.int .i64 0, .int .i64 (-1)]]) w) := by
  have HX := Lib.hid (GX.new w ⟨k, n, s⟩ ⟨k, m, t⟩)
  replace RA := Lib.hid RA
  replace RB := Lib.hid RB
  replace OR := Lib.hid OR
  have FN : Hid (∀ w, Calls Tryd.prog 19 #[] w (Ans (.agg #[.int .i64 0, .int .i64 (-1)]) w)) := Lib.hid refBig_fine
  all_goals
    go_enter Tryd.func8, Tryd.ntmps8
    go_wp2_with (first
      | (go_at_call 18; first | ((with_reducible refine (RA.out _).mono ?_); rintro e w2 ⟨rfl, hb⟩) | ((with_reducible refine (RB.out _).mono ?_); rintro e w2 ⟨rfl, hb⟩)
         have HX := Lib.hid (HX.out.next hb)
         obtain ⟨a0, a1, a2⟩ := box3 HX.out.a
         obtain ⟨b0, b1, b2⟩ := box3 HX.out.b
         obtain ⟨r0, r1⟩ := box2 HX.out.r
         have z0 := frozen3 HX.out.r 0
         have z1 := frozen3 HX.out.r 1
         clear hb)
      | (go_at_call 30; refine (OR.out _).mono ?_; rintro e w2 ⟨rfl, hb⟩
         have HX := Lib.hid (HX.out.next hb)
         obtain ⟨a0, a1, a2⟩ := box3 HX.out.a
         obtain ⟨b0, b1, b2⟩ := box3 HX.out.b
         obtain ⟨r0, r1⟩ := box2 HX.out.r
         have z0 := frozen3 HX.out.r 0
         have z1 := frozen3 HX.out.r 1
         clear hb)
      | (go_at_call 19; refine (FN.out _).mono ?_; rintro e w2 ⟨rfl, hb⟩
         have HX := Lib.hid (HX.out.next hb)
         obtain ⟨a0, a1, a2⟩ := box3 HX.out.a
         obtain ⟨b0, b1, b2⟩ := box3 HX.out.b
         obtain ⟨r0, r1⟩ := box2 HX.out.r
         have z0 := frozen3 HX.out.r 0
         have z1 := frozen3 HX.out.r 1
         clear hb))
    exact bodyPost_ret (v := .tuple #[.int .i64 g, .agg #[.int .i64 0, .int .i64 (-1)]]) (by simp [results, Tryd.results8, go_sem, r0, r1]) rfl ⟨rfl, set2_bel HX.out.bel (by omega) _ _⟩
/-- the document's answer: the sign, and the fault's code and place -/
def refSg (x y : Val) : Value := if signP x y = -1 then .tuple #[.int .i64 (signV x y), .agg #[.int .i64 0, .int .i64 (-1)]] else .tuple #[.int .i64 0, .agg #[.int .i64 22, .int .i64 (signP x y)]]
theorem refSign_num (k n j m : Int) (hk : k = 2 ∨ k = 3) (hj : j = 2 ∨ j = 3) (hn : i64ok n) (hm : i64ok m) (w : World)
    (RA : ∀ w, Calls Tryd.prog 18 #[.agg #[.int .i64 k, .int .i64 n, .string ⟨#[]⟩]] w (Ans (.bool true) w))
    (RB : ∀ w, Calls Tryd.prog 18 #[.agg #[.int .i64 j, .int .i64 m, .string ⟨#[]⟩]] w (Ans (.bool true) w)) :
    Calls Tryd.prog 8 #[.agg #[.int .i64 k, .int .i64 n, .string ⟨#[]⟩], .agg #[.int .i64 j, .int .i64 m, .string ⟨#[]⟩]] w (Ans (.tuple #[.int .i64 (signN k n j m), .agg #[.int .i64 0, .int .i64 (-1)]]) w) := by
  rcases hk with rfl | rfl <;> rcases hj with rfl | rfl
  · exact refSign_22 n m hn hm w RA RB
  · exact refSign_23 n m hn hm w RA RB
  · exact refSign_32 n m hn hm w RA RB
  · exact refSign_33 n m hn hm w RA RB
theorem refSign_any (x y : Val) (ox : x.ok) (oy : y.ok) (lx : x.s.size ≤ 9223372036854775807) (ly : y.s.size ≤ 9223372036854775807) (w : World) :
    Calls Tryd.prog 8 #[.agg #[.int .i64 x.k, .int .i64 x.n, .string x.s], .agg #[.int .i64 y.k, .int .i64 y.n, .string y.s]] w (Ans (refSg x y) w) := by
  have RA : ∀ w, Calls Tryd.prog 18 #[.agg #[.int .i64 x.k, .int .i64 x.n, .string x.s]] w (Ans (.bool (rightB x)) w) := fun w => refRight_any x lx w
  have RB : ∀ w, Calls Tryd.prog 18 #[.agg #[.int .i64 y.k, .int .i64 y.n, .string y.s]] w (Ans (.bool (rightB y)) w) := fun w => refRight_any y ly w
  have B0 : signP x y = 0 → refSg x y = .tuple #[.int .i64 0, .agg #[.int .i64 22, .int .i64 0]] := fun h => by unfold refSg; rw [h, if_neg (by omega)]
  have B1 : signP x y = 1 → refSg x y = .tuple #[.int .i64 0, .agg #[.int .i64 22, .int .i64 1]] := fun h => by unfold refSg; rw [h, if_neg (by omega)]
  cases hx : rightB x with
  | false =>
    have hp : signP x y = 0 := by unfold signP knownB; rw [hx]; rfl
    rw [B0 hp]; rw [hx] at RA
    exact refS_bad0a _ _ _ _ _ _ _ RA RB w
  | true =>
    rw [hx] at RA
    cases k0 : (x.k == 0) with
    | true =>
      have hp : signP x y = 0 := by unfold signP knownB; rw [hx, k0]; rfl
      rw [B0 hp]
      exact refS_bad0b _ _ _ _ _ _ _ RA RB (by simpa using k0) w
    | false =>
      have kx : knownB x = true := by unfold knownB; rw [hx, k0]; rfl
      cases hy : rightB y with
      | false =>
        have hp : signP x y = 1 := by unfold signP; rw [if_neg (by simp [kx]), if_pos (by unfold knownB; rw [hy]; rfl)]
        rw [B1 hp]; rw [hy] at RB
        exact refS_bad1a _ _ _ _ _ _ RA RB k0 w
      | true =>
        rw [hy] at RB
        cases j0 : (y.k == 0) with
        | true =>
          have hp : signP x y = 1 := by unfold signP; rw [if_neg (by simp [kx]), if_pos (by unfold knownB; rw [hy, j0]; rfl)]
          rw [B1 hp]
          exact refS_bad1b _ _ _ _ _ _ RA RB k0 (by simpa using j0) w
        | false =>
          have ky : knownB y = true := by unfold knownB; rw [hy, j0]; rfl
          by_cases hk : x.k = 2 ∨ x.k = 3
          · by_cases hj : y.k = 2 ∨ y.k = 3
            · have hp : signP x y = -1 := by unfold signP; rw [if_neg (by simp [kx]), if_neg (by simp [ky]), if_pos ⟨hk, hj⟩]
              have hv : signV x y = signN x.k x.n y.k y.n := by unfold signV; rw [if_pos hk]
              have hr : refSg x y = .tuple #[.int .i64 (signN x.k x.n y.k y.n), .agg #[.int .i64 0, .int .i64 (-1)]] := by unfold refSg; rw [if_pos hp, hv]
              rw [hr]
              rw [knownB_num kx hk] at RA ⊢
              rw [knownB_num ky hj] at RB ⊢
              exact refSign_num _ _ _ _ hk hj ox.2 oy.2 w RA RB
            · have hp : signP x y = 1 := by unfold signP; rw [if_neg (by simp [kx]), if_neg (by simp [ky]), if_neg (fun h => hj h.2), if_neg (by omega)]
              rw [B1 hp]
              exact refS_bad1d _ _ _ _ _ _ RA RB hk j0 (by simp; omega) (by simp; omega) w
          · by_cases hkj : x.k = y.k
            · have hp : signP x y = -1 := by unfold signP; rw [if_neg (by simp [kx]), if_neg (by simp [ky]), if_neg (fun h => hk h.1), if_pos hkj]
              have hv : signV x y = ordI x y := by unfold signV; rw [if_neg hk]
              have hr : refSg x y = .tuple #[.int .i64 (ordI x y), .agg #[.int .i64 0, .int .i64 (-1)]] := by unfold refSg; rw [if_pos hp, hv]
              rw [hr]
              have OR : ∀ w, Calls Tryd.prog 30 #[.agg #[.int .i64 x.k, .int .i64 x.n, .string x.s], .agg #[.int .i64 y.k, .int .i64 y.n, .string y.s]] w (Ans (.int .i64 (ordI x y)) w) := fun w => refOrder_any x y w
              rw [← hkj] at RB OR ⊢
              exact refS_ord _ _ _ _ _ _ RA RB k0 (by simp; omega) (by simp; omega) OR w
            · have hp : signP x y = 1 := by unfold signP; rw [if_neg (by simp [kx]), if_neg (by simp [ky]), if_neg (fun h => hk h.1), if_neg hkj]
              rw [B1 hp]
              exact refS_bad1c _ _ _ _ _ _ RA RB k0 j0 (by simp; omega) (by simp; omega) (by simpa using hkj) w
end Go.Proofs.YtjfbhajaddgmpaaDoor
