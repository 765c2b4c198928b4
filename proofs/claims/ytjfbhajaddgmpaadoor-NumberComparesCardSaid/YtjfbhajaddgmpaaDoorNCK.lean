/- Package number: isKnown, isNumber, Sign and Compare at any values. -/
import Derived.Test.YtjfbhajaddgmpaaDoorNT
import Derived.Test.YtjfbhajaddgmpaaDoorNX
namespace Go.Proofs.YtjfbhajaddgmpaaDoor
open Go.RowKit

/-- a value that is valid and not Null -/
def knownB (x : Val) : Bool := rightB x && !(x.k == 0)
theorem knownB_num {x : Val} (h : knownB x = true) (hk : x.k = 2 ∨ x.k = 3) : x.s = ⟨#[]⟩ := by
  unfold knownB rightB at h
  rw [if_neg (by omega), if_pos hk] at h
  simp at h
  exact h.1
theorem isKnown_any (x : Val) (hl : x.s.size ≤ 9223372036854775807) (w : World) : Calls Tryd.prog 21 #[.agg #[.int .i64 x.k, .int .i64 x.n, .string x.s]] w (Ans (.bool (knownB x)) w) := by
  have HR : Hid (∀ w, Calls Tryd.prog 16 #[.agg #[.int .i64 x.k, .int .i64 x.n, .string x.s]] w (Ans (.bool (rightB x)) w)) := Lib.hid fun w => right_any x hl w
  unfold knownB
  obtain ⟨k, n, s⟩ := x
  dsimp only at *
  have HB := Lib.hid (VB.start w k n s)
  generalize rightB ⟨k, n, s⟩ = b at *
  clear hl
  cases b with
  | false =>
    go_enter Tryd.func21, Tryd.ntmps21
    go_wp2_with (go_at_call 16; refine (HR.out _).mono ?_; rintro e w2 ⟨rfl, hb⟩; have HB := Lib.hid (HB.out.next hb); clear hb; obtain ⟨x0, x1, x2⟩ := box3 HB.out.x)
    go_ret
    exact ⟨rfl, HB.out.bel⟩
  | true =>
    cases h0 : (k == 0)
    all_goals
      have h1 : (k == 0) = _ := h0
      go_enter Tryd.func21, Tryd.ntmps21
      go_wp2_with (go_at_call 16; refine (HR.out _).mono ?_; rintro e w2 ⟨rfl, hb⟩; have HB := Lib.hid (HB.out.next hb); clear hb; obtain ⟨x0, x1, x2⟩ := box3 HB.out.x)
      go_ret
      refine ⟨?_, HB.out.bel⟩
      first | rfl | simp_all
theorem isNumber_any (k n : Int) (s : ByteArray) (w : World) : Calls Tryd.prog 22 #[.agg #[.int .i64 k, .int .i64 n, .string s]] w (Ans (.bool (k == 2 || k == 3)) w) := by
  cases h2 : (k == 2)
  · cases h3 : (k == 3)
    all_goals
      go_enter Tryd.func22, Tryd.ntmps22
      go_wp2_with fail
      go_ret
      exact ⟨rfl, alloc_below _ _⟩
  · go_enter Tryd.func22, Tryd.ntmps22
    go_wp2_with fail
    go_ret
    exact ⟨rfl, alloc_below _ _⟩
/-- where Sign finds a fault: -1 nowhere -/
def signP (x y : Val) : Int := if knownB x = false then 0 else if knownB y = false then 1 else if (x.k = 2 ∨ x.k = 3) ∧ (y.k = 2 ∨ y.k = 3) then -1 else if x.k = y.k then -1 else 1
def signV (x y : Val) : Int := if x.k = 2 ∨ x.k = 3 then signN x.k x.n y.k y.n else ordI x y
/-- what Sign comes to -/
def SgT (x y : Val) (w : World) (e : Ending) (w' : World) : Prop :=
  Below w.heap.size w w' ∧ (signP x y = -1 ∧ e = .returned (.tuple #[.int .i64 (signV x y), .nilIface]) ∨
    (signP x y = 0 ∨ signP x y = 1) ∧ ∃ N, e = .returned (.tuple #[.int .i64 0, .iface 69 (.pointer (some ⟨N, 0, none⟩))]) ∧ FaultAt w' 22 (signP x y) (.iface 69 (.pointer (some ⟨N, 0, none⟩))))
set_option maxRecDepth 100000 in
set_option maxHeartbeats 4000000 in
theorem sign_bad (x y : Val) (p : Int) (lx : x.s.size ≤ 9223372036854775807) (ly : y.s.size ≤ 9223372036854775807)
    (hp : knownB x = false ∧ p = 0 ∨ knownB x = true ∧ knownB y = false ∧ p = 1 ∨ knownB x = true ∧ knownB y = true ∧ ((x.k == 2 || x.k == 3) && (y.k == 2 || y.k == 3)) = false ∧ (x.k == y.k) = false ∧ p = 1) (w : World) :
    Calls Tryd.prog 7 #[.agg #[.int .i64 x.k, .int .i64 x.n, .string x.s], .agg #[.int .i64 y.k, .int .i64 y.n, .string y.s]] w fun e w' =>
      Below w.heap.size w w' ∧ ∃ N, e = .returned (.tuple #[.int .i64 0, .iface 69 (.pointer (some ⟨N, 0, none⟩))]) ∧ FaultAt w' 22 p (.iface 69 (.pointer (some ⟨N, 0, none⟩))) := by
  have KA := Lib.hid (isKnown_any x lx)
  have KB := Lib.hid (isKnown_any y ly)
  have NA := Lib.hid (isNumber_any x.k x.n x.s)
  have NB := Lib.hid (isNumber_any y.k y.n y.s)
  have NW := Lib.hid (new_any 22 p rfl)
  obtain ⟨k, n, s⟩ := x
  obtain ⟨j, m, t⟩ := y
  have HB := Lib.hid (PB.start w k n s j m t)
  dsimp only at *
  clear lx ly
  generalize knownB ⟨k, n, s⟩ = a at *
  generalize knownB ⟨j, m, t⟩ = b at *
  rcases hp with ⟨rfl, rfl⟩ | ⟨rfl, rfl, rfl⟩ | ⟨rfl, rfl, hnum, hkj, rfl⟩
  · go_enter Tryd.func7, Tryd.ntmps7
    go_wp2_with (first
      | (go_at_call 21; first | ((with_reducible refine (KA.out _).mono ?_); rintro e w2 ⟨rfl, hb⟩)
         have HB := Lib.hid (HB.out.next hb); clear hb; obtain ⟨x0, x1, x2, y0, y1, y2⟩ := HB.out.six)
      | (go_at_call 15; refine (NW.out _).mono ?_; rintro e w2 ⟨v, rfl, hf, hb, N, rfl⟩
         have HB := Lib.hid (HB.out.next hb); clear hb; have HF := Lib.hid hf; clear hf))
    go_ret2
    exact ⟨HB.out.bel, N, rfl, HF.out⟩
  · go_enter Tryd.func7, Tryd.ntmps7
    go_wp2_with (first
      | (go_at_call 21; first | ((with_reducible refine (KA.out _).mono ?_); rintro e w2 ⟨rfl, hb⟩) | ((with_reducible refine (KB.out _).mono ?_); rintro e w2 ⟨rfl, hb⟩)
         have HB := Lib.hid (HB.out.next hb); clear hb; obtain ⟨x0, x1, x2, y0, y1, y2⟩ := HB.out.six)
      | (go_at_call 15; refine (NW.out _).mono ?_; rintro e w2 ⟨v, rfl, hf, hb, N, rfl⟩
         have HB := Lib.hid (HB.out.next hb); clear hb; have HF := Lib.hid hf; clear hf))
    go_ret2
    exact ⟨HB.out.bel, N, rfl, HF.out⟩
  · cases ha : (k == 2 || k == 3)
    · rw [ha] at NA
      go_enter Tryd.func7, Tryd.ntmps7
      go_wp2_with (first
        | (go_at_call 21; first | ((with_reducible refine (KA.out _).mono ?_); rintro e w2 ⟨rfl, hb⟩) | ((with_reducible refine (KB.out _).mono ?_); rintro e w2 ⟨rfl, hb⟩)
           have HB := Lib.hid (HB.out.next hb); clear hb; obtain ⟨x0, x1, x2, y0, y1, y2⟩ := HB.out.six)
        | (go_at_call 22; first | ((with_reducible refine (NA.out _).mono ?_); rintro e w2 ⟨rfl, hb⟩)
           have HB := Lib.hid (HB.out.next hb); clear hb; obtain ⟨x0, x1, x2, y0, y1, y2⟩ := HB.out.six)
        | (go_at_call 15; refine (NW.out _).mono ?_; rintro e w2 ⟨v, rfl, hf, hb, N, rfl⟩
           have HB := Lib.hid (HB.out.next hb); clear hb; have HF := Lib.hid hf; clear hf))
      go_ret2
      exact ⟨HB.out.bel, N, rfl, HF.out⟩
    · rw [ha, Bool.true_and] at hnum
      rw [ha] at NA
      rw [hnum] at NB
      go_enter Tryd.func7, Tryd.ntmps7
      go_wp2_with (first
        | (go_at_call 21; first | ((with_reducible refine (KA.out _).mono ?_); rintro e w2 ⟨rfl, hb⟩) | ((with_reducible refine (KB.out _).mono ?_); rintro e w2 ⟨rfl, hb⟩)
           have HB := Lib.hid (HB.out.next hb); clear hb; obtain ⟨x0, x1, x2, y0, y1, y2⟩ := HB.out.six)
        | (go_at_call 22; first | ((with_reducible refine (NA.out _).mono ?_); rintro e w2 ⟨rfl, hb⟩) | ((with_reducible refine (NB.out _).mono ?_); rintro e w2 ⟨rfl, hb⟩)
           have HB := Lib.hid (HB.out.next hb); clear hb; obtain ⟨x0, x1, x2, y0, y1, y2⟩ := HB.out.six)
        | (go_at_call 15; refine (NW.out _).mono ?_; rintro e w2 ⟨v, rfl, hf, hb, N, rfl⟩
           have HB := Lib.hid (HB.out.next hb); clear hb; have HF := Lib.hid hf; clear hf))
      go_ret2
      exact ⟨HB.out.bel, N, rfl, HF.out⟩
set_option maxRecDepth 100000 in
set_option maxHeartbeats 4000000 in
theorem sign_ord (x y : Val) (lx : x.s.size ≤ 9223372036854775807) (ly : y.s.size ≤ 9223372036854775807) (hx : knownB x = true) (hy : knownB y = true) (hk : (x.k == 2 || x.k == 3) = false) (hkj : x.k = y.k) (w : World) :
    Calls Tryd.prog 7 #[.agg #[.int .i64 x.k, .int .i64 x.n, .string x.s], .agg #[.int .i64 y.k, .int .i64 y.n, .string y.s]] w (Ans (.tuple #[.int .i64 (ordI x y), .nilIface]) w) := by
  have KA := Lib.hid (isKnown_any x lx)
  have KB := Lib.hid (isKnown_any y ly)
  have NA := Lib.hid (isNumber_any x.k x.n x.s)
  have OR : Hid (∀ w, Calls Tryd.prog 26 #[.agg #[.int .i64 x.k, .int .i64 x.n, .string x.s], .agg #[.int .i64 y.k, .int .i64 y.n, .string y.s]] w (Ans (.int .i64 (ordI x y)) w)) := Lib.hid fun w => order_any x y w
  obtain ⟨k, n, s⟩ := x
  obtain ⟨j, m, t⟩ := y
  dsimp only at *
  subst hkj
  have HB := Lib.hid (PB.start w k n s k m t)
  generalize ordI ⟨k, n, s⟩ ⟨k, m, t⟩ = r at *
  clear lx ly
  rw [hx] at KA
  rw [hy] at KB
  rw [hk] at NA
  clear hx hy
  go_enter Tryd.func7, Tryd.ntmps7
  go_wp2_with (first
    | (go_at_call 21; first | ((with_reducible refine (KA.out _).mono ?_); rintro e w2 ⟨rfl, hb⟩) | ((with_reducible refine (KB.out _).mono ?_); rintro e w2 ⟨rfl, hb⟩)
       have HB := Lib.hid (HB.out.next hb); clear hb; obtain ⟨x0, x1, x2, y0, y1, y2⟩ := HB.out.six)
    | (go_at_call 22; first | ((with_reducible refine (NA.out _).mono ?_); rintro e w2 ⟨rfl, hb⟩)
       have HB := Lib.hid (HB.out.next hb); clear hb; obtain ⟨x0, x1, x2, y0, y1, y2⟩ := HB.out.six)
    | (go_at_call 26; refine (OR.out _).mono ?_; rintro e w2 ⟨rfl, hb⟩
       have HB := Lib.hid (HB.out.next hb); clear hb))
  go_ret2
  exact ⟨rfl, HB.out.bel⟩
theorem sign_any (x y : Val) (ox : x.ok) (oy : y.ok) (lx : x.s.size ≤ 9223372036854775807) (ly : y.s.size ≤ 9223372036854775807) (w : World) :
    Calls Tryd.prog 7 #[.agg #[.int .i64 x.k, .int .i64 x.n, .string x.s], .agg #[.int .i64 y.k, .int .i64 y.n, .string y.s]] w (SgT x y w) := by
  by_cases hx : knownB x = false
  · have hp : signP x y = 0 := by unfold signP; rw [if_pos hx]
    refine (sign_bad x y 0 lx ly (.inl ⟨hx, rfl⟩) w).mono fun e w' ⟨hb, N, he, hf⟩ => ⟨hb, .inr ⟨.inl hp, N, he, ?_⟩⟩
    rw [hp]; exact hf
  have hx1 : knownB x = true := by cases h : knownB x <;> simp_all
  by_cases hy : knownB y = false
  · have hp : signP x y = 1 := by unfold signP; rw [if_neg hx, if_pos hy]
    refine (sign_bad x y 1 lx ly (.inr (.inl ⟨hx1, hy, rfl⟩)) w).mono fun e w' ⟨hb, N, he, hf⟩ => ⟨hb, .inr ⟨.inr hp, N, he, ?_⟩⟩
    rw [hp]; exact hf
  have hy1 : knownB y = true := by cases h : knownB y <;> simp_all
  by_cases hn : (x.k = 2 ∨ x.k = 3) ∧ (y.k = 2 ∨ y.k = 3)
  · have hp : signP x y = -1 := by unfold signP; rw [if_neg hx, if_neg hy, if_pos hn]
    have hv : signV x y = signN x.k x.n y.k y.n := by unfold signV; rw [if_pos hn.1]
    have sx := knownB_num hx1 hn.1
    have sy := knownB_num hy1 hn.2
    rw [sx, sy]
    refine (sign_num x.k x.n y.k y.n hn.1 hn.2 ox.2 oy.2 w).mono fun e w' ⟨he, hb⟩ => ⟨hb, .inl ⟨hp, ?_⟩⟩
    rw [hv]; exact he
  by_cases hk : x.k = y.k
  · have hp : signP x y = -1 := by unfold signP; rw [if_neg hx, if_neg hy, if_neg hn, if_pos hk]
    have hv : signV x y = ordI x y := by unfold signV; rw [if_neg (by omega)]
    refine (sign_ord x y lx ly hx1 hy1 (by simp; omega) hk w).mono fun e w' ⟨he, hb⟩ => ⟨hb, .inl ⟨hp, ?_⟩⟩
    rw [hv]; exact he
  · have hp : signP x y = 1 := by unfold signP; rw [if_neg hx, if_neg hy, if_neg hn, if_neg hk]
    refine (sign_bad x y 1 lx ly (.inr (.inr ⟨hx1, hy1, by simp; omega, by simpa using hk, rfl⟩)) w).mono fun e w' ⟨hb, N, he, hf⟩ => ⟨hb, .inr ⟨.inr hp, N, he, ?_⟩⟩
    rw [hp]; exact hf
end Go.Proofs.YtjfbhajaddgmpaaDoor
