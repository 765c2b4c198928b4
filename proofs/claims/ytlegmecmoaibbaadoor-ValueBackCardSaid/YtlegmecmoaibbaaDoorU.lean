/- ValueKinds: the law's own body answers true. -/
import Derived.Test.YtlegmecmoaibbaaDoorHB
namespace Go.Proofs.YtlegmecmoaibbaaDoor
open Go.RowKit

theorem ret_bool {a b : Bool} (h : a = b) : Ending.returned (.bool a) = .returned (.bool b) := by rw [h]
theorem kinds_text {x y : Val} (hx : x.ok) (hy : y.ok) (rx : rightB x = true) (ry : rightB y = true) (h : x.k ≠ y.k) : textS x ≠ textS y := fun e => h (by rw [(text_inj hx hy rx ry).1 e])
theorem kinds_lt {x y : Val} (h : x.k < y.k) : ordI x y = -1 := by
  have e : cmpI x.k y.k = -1 := by unfold cmpI; rw [if_pos h]
  unfold ordI; rw [e]; simp [orI]
theorem kinds_gt {x y : Val} (h : y.k < x.k) : ordI x y = 1 := by
  have e : cmpI x.k y.k = 1 := by unfold cmpI; rw [if_neg (by omega), if_pos h]
  unfold ordI; rw [e]; simp [orI]
theorem right_pos {x : Val} (h : rightB x = true) : 0 ≤ x.k ∧ x.k ≤ 5 := by
  rcases right_cases h with ⟨h, _⟩ | ⟨h, _⟩ | ⟨h, _⟩ | ⟨h, _⟩ | ⟨h, _⟩ | ⟨h, _⟩ | ⟨h, _⟩ <;> omega
set_option maxRecDepth 100000 in
set_option maxHeartbeats 4000000 in
theorem kinds_law (x y : Val) (hx : x.ok) (hy : y.ok) (lx : x.s.size ≤ 9223372036854775807) (ly : y.s.size ≤ 9223372036854775807) (w : World) (hE : Env w) : Calls Tryd.prog 5 #[x.v, y.v] w (Ans (.bool true) w) := by
  have RX := Lib.hid (right_any x lx)
  have RY := Lib.hid (right_any y ly)
  have TX := Lib.hid (text_any x hx lx)
  have TY := Lib.hid (text_any y hy ly)
  have OX := Lib.hid (order_any x y)
  have AL := Lib.hid alive_any
  have HE := Lib.hid hE
  have HD : rightB x = true → rightB y = true → x.k ≠ y.k → textS x ≠ textS y := fun a b c => kinds_text hx hy a b c
  have HL := @kinds_lt x y
  have HG := @kinds_gt x y
  have HP : rightB x = true → 0 ≤ x.k ∧ x.k ≤ 5 := right_pos
  have HQ : rightB y = true → 0 ≤ y.k ∧ y.k ≤ 5 := right_pos
  obtain ⟨k, n, s⟩ := x
  obtain ⟨j, m, t⟩ := y
  unfold Val.v at *
  simp only at *
  have HB := Lib.hid (PB.start w k n s j m t)
  have lx' : (s.size : Int) ≤ 9223372036854775807 := by omega
  have ly' : (t.size : Int) ≤ 9223372036854775807 := by omega
  generalize textS ⟨k, n, s⟩ = u at *
  generalize textS ⟨j, m, t⟩ = v at *
  generalize ordI ⟨k, n, s⟩ ⟨j, m, t⟩ = o at *
  generalize rightB ⟨k, n, s⟩ = p at *
  generalize rightB ⟨j, m, t⟩ = q at *
  clear hE hx hy lx ly
  by_cases hmain : p = true ∧ q = true ∧ k ≠ j
  · obtain ⟨rfl, rfl, hkj⟩ := hmain
    have hne := HD rfl rfl hkj
    have hne2 : (u.toList == v.toList) = false := by simp [bytes_inj, hne]
    obtain ⟨hk0, hk5⟩ := HP rfl
    obtain ⟨hj0, hj5⟩ := HQ rfl
    have hkj2 : (k == j) = false := by simpa using hkj
    clear HD HP HQ
    rcases Int.lt_or_gt_of_ne hkj with hlt | hgt
    · have := HL hlt
      subst this
      clear HL HG hkj
      by_cases hk : k = 0
      · subst hk
        go_enter Tryd.func5, Tryd.ntmps5
        go_wp2_with (first
          | (go_at_call 15; first | ((with_reducible refine (RX.out _).mono ?_); rintro e w2 ⟨rfl, hb⟩) | ((with_reducible refine (RY.out _).mono ?_); rintro e w3 ⟨rfl, hb⟩)
             have HB := Lib.hid (HB.out.next hb); clear hb; obtain ⟨x0, x1, x2⟩ := box3 HB.out.x; obtain ⟨y0, y1, y2⟩ := box3 HB.out.y)
          | (go_at_call 19; refine (OX.out _).mono ?_; rintro e w4 ⟨rfl, hb⟩
             have HB := Lib.hid (HB.out.next hb); clear hb; obtain ⟨x0, x1, x2⟩ := box3 HB.out.x; obtain ⟨y0, y1, y2⟩ := box3 HB.out.y)
          | (go_at_call 12; refine (AL.out _ (HE.out.below HB.out.bel)).mono ?_; rintro e w5 ⟨rfl, hb⟩
             have HB := Lib.hid (HB.out.next hb); clear hb; obtain ⟨x0, x1, x2⟩ := box3 HB.out.x; obtain ⟨y0, y1, y2⟩ := box3 HB.out.y))
        all_goals try (go_ret; exact ⟨rfl, HB.out.bel⟩)
        have HB := Lib.hid HB.out.drew
        go_region_held3 (fun W => W.cell? ⟨w.heap.size, 0, none⟩ = some (.int .i64 0) ∧ W.cell? ⟨w.heap.size, 1, none⟩ = some (.int .i64 n) ∧ W.cell? ⟨w.heap.size, 2, none⟩ = some (.string s) ∧
          W.cell? ⟨w.heap.size + 1, 0, none⟩ = some (.int .i64 j) ∧ W.cell? ⟨w.heap.size + 1, 1, none⟩ = some (.int .i64 m) ∧ W.cell? ⟨w.heap.size + 1, 2, none⟩ = some (.string t))
          (first | exact HB.out.six | go_keep)
          (first
            | (go_at_call 12; refine (AL.out _ (HE.out.below HB.out.bel)).mono ?_; rintro e w5 ⟨rfl, hb⟩; have HB := Lib.hid (HB.out.next hb); clear hb)
            | (go_at_call 14; first | ((with_reducible refine (TX.out _ (HE.out.below HB.out.bel)).mono ?_); rintro e w6 ⟨rfl, hb⟩) | ((with_reducible refine (TY.out _ (HE.out.below HB.out.bel)).mono ?_); rintro e w7 ⟨rfl, hb⟩)
               have HB := Lib.hid (HB.out.next hb); clear hb))
        go_wp2_with fail
        go_ret
        exact ⟨rfl, HB.out.bel⟩
      · have hk3 : k = 1 ∨ k = 2 ∨ k = 3 ∨ k = 4 ∨ k = 5 := by omega
        have hk2 : (k != 0) = true := by simp; omega
        clear hk hk3 hk0 hk5 hj0 hj5
        go_enter Tryd.func5, Tryd.ntmps5
        go_wp2_with (first
          | (go_at_call 15; first | ((with_reducible refine (RX.out _).mono ?_); rintro e w2 ⟨rfl, hb⟩) | ((with_reducible refine (RY.out _).mono ?_); rintro e w3 ⟨rfl, hb⟩)
             have HB := Lib.hid (HB.out.next hb); clear hb; obtain ⟨x0, x1, x2⟩ := box3 HB.out.x; obtain ⟨y0, y1, y2⟩ := box3 HB.out.y)
          | (go_at_call 19; refine (OX.out _).mono ?_; rintro e w4 ⟨rfl, hb⟩
             have HB := Lib.hid (HB.out.next hb); clear hb; obtain ⟨x0, x1, x2⟩ := box3 HB.out.x; obtain ⟨y0, y1, y2⟩ := box3 HB.out.y)
          | (go_at_call 12; refine (AL.out _ (HE.out.below HB.out.bel)).mono ?_; rintro e w5 ⟨rfl, hb⟩
             have HB := Lib.hid (HB.out.next hb); clear hb; obtain ⟨x0, x1, x2⟩ := box3 HB.out.x; obtain ⟨y0, y1, y2⟩ := box3 HB.out.y))
        all_goals try (go_ret; exact ⟨rfl, HB.out.bel⟩)
        have HB := Lib.hid HB.out.drew
        first
          | (go_region_law (first
              | (go_simp; go_at_call 12; refine (AL.out _ (HE.out.below HB.out.bel)).mono ?_; rintro e w5 ⟨rfl, hb⟩; have HB := Lib.hid (HB.out.next hb); clear hb; obtain ⟨x0, x1, x2, y0, y1, y2⟩ := HB.out.six)
              | (go_simp; go_at_call 14; first | ((with_reducible refine (TX.out _ (HE.out.below HB.out.bel)).mono ?_); rintro e w6 ⟨rfl, hb⟩) | ((with_reducible refine (TY.out _ (HE.out.below HB.out.bel)).mono ?_); rintro e w7 ⟨rfl, hb⟩)
                 have HB := Lib.hid (HB.out.next hb); clear hb; obtain ⟨x0, x1, x2, y0, y1, y2⟩ := HB.out.six)))
          | fail
        all_goals
          go_wp2_with fail
          go_ret
          first | exact ⟨rfl, HB.out.bel⟩ | (refine ⟨ret_bool ?_, HB.out.bel⟩; simp [hlt])
    · have := HG hgt
      subst this
      have hk3 : k = 1 ∨ k = 2 ∨ k = 3 ∨ k = 4 ∨ k = 5 := by omega
      have hlt : ¬ k < j := by omega
      have hk2 : (k != 0) = true := by simp; omega
      clear HL HG hkj hk3 hk0 hk5 hj0 hj5
      go_enter Tryd.func5, Tryd.ntmps5
      go_wp2_with (first
        | (go_at_call 15; first | ((with_reducible refine (RX.out _).mono ?_); rintro e w2 ⟨rfl, hb⟩) | ((with_reducible refine (RY.out _).mono ?_); rintro e w3 ⟨rfl, hb⟩)
           have HB := Lib.hid (HB.out.next hb); clear hb; obtain ⟨x0, x1, x2⟩ := box3 HB.out.x; obtain ⟨y0, y1, y2⟩ := box3 HB.out.y)
        | (go_at_call 19; refine (OX.out _).mono ?_; rintro e w4 ⟨rfl, hb⟩
           have HB := Lib.hid (HB.out.next hb); clear hb; obtain ⟨x0, x1, x2⟩ := box3 HB.out.x; obtain ⟨y0, y1, y2⟩ := box3 HB.out.y)
        | (go_at_call 12; refine (AL.out _ (HE.out.below HB.out.bel)).mono ?_; rintro e w5 ⟨rfl, hb⟩
           have HB := Lib.hid (HB.out.next hb); clear hb; obtain ⟨x0, x1, x2⟩ := box3 HB.out.x; obtain ⟨y0, y1, y2⟩ := box3 HB.out.y))
      all_goals try (go_ret; exact ⟨rfl, HB.out.bel⟩)
      have HB := Lib.hid HB.out.drew
      first
        | (go_region_law (first
            | (go_simp; go_at_call 12; refine (AL.out _ (HE.out.below HB.out.bel)).mono ?_; rintro e w5 ⟨rfl, hb⟩; have HB := Lib.hid (HB.out.next hb); clear hb; obtain ⟨x0, x1, x2, y0, y1, y2⟩ := HB.out.six)
            | (go_simp; go_at_call 14; first | ((with_reducible refine (TX.out _ (HE.out.below HB.out.bel)).mono ?_); rintro e w6 ⟨rfl, hb⟩) | ((with_reducible refine (TY.out _ (HE.out.below HB.out.bel)).mono ?_); rintro e w7 ⟨rfl, hb⟩)
               have HB := Lib.hid (HB.out.next hb); clear hb; obtain ⟨x0, x1, x2, y0, y1, y2⟩ := HB.out.six)))
        | fail
      all_goals
        go_wp2_with fail
        go_ret
        first | exact ⟨rfl, HB.out.bel⟩ | (refine ⟨ret_bool ?_, HB.out.bel⟩; simp [hlt])
  · clear HD HL HG HP HQ TX TY
    cases p with
    | false =>
      clear hmain
      go_enter Tryd.func5, Tryd.ntmps5
      go_wp2_with (first
        | (go_at_call 15; first | ((with_reducible refine (RX.out _).mono ?_); rintro e w2 ⟨rfl, hb⟩) | ((with_reducible refine (RY.out _).mono ?_); rintro e w3 ⟨rfl, hb⟩)
           have HB := Lib.hid (HB.out.next hb); clear hb; obtain ⟨x0, x1, x2⟩ := box3 HB.out.x; obtain ⟨y0, y1, y2⟩ := box3 HB.out.y)
        | (go_at_call 19; refine (OX.out _).mono ?_; rintro e w4 ⟨rfl, hb⟩
           have HB := Lib.hid (HB.out.next hb); clear hb; obtain ⟨x0, x1, x2⟩ := box3 HB.out.x; obtain ⟨y0, y1, y2⟩ := box3 HB.out.y)
        | (go_at_call 12; refine (AL.out _ (HE.out.below HB.out.bel)).mono ?_; rintro e w5 ⟨rfl, hb⟩
           have HB := Lib.hid (HB.out.next hb); clear hb; obtain ⟨x0, x1, x2⟩ := box3 HB.out.x; obtain ⟨y0, y1, y2⟩ := box3 HB.out.y))
      all_goals try (go_ret; exact ⟨rfl, HB.out.bel⟩)
    | true =>
      cases q with
      | false =>
        clear hmain
        go_enter Tryd.func5, Tryd.ntmps5
        go_wp2_with (first
          | (go_at_call 15; first | ((with_reducible refine (RX.out _).mono ?_); rintro e w2 ⟨rfl, hb⟩) | ((with_reducible refine (RY.out _).mono ?_); rintro e w3 ⟨rfl, hb⟩)
             have HB := Lib.hid (HB.out.next hb); clear hb; obtain ⟨x0, x1, x2⟩ := box3 HB.out.x; obtain ⟨y0, y1, y2⟩ := box3 HB.out.y)
          | (go_at_call 19; refine (OX.out _).mono ?_; rintro e w4 ⟨rfl, hb⟩
             have HB := Lib.hid (HB.out.next hb); clear hb; obtain ⟨x0, x1, x2⟩ := box3 HB.out.x; obtain ⟨y0, y1, y2⟩ := box3 HB.out.y)
          | (go_at_call 12; refine (AL.out _ (HE.out.below HB.out.bel)).mono ?_; rintro e w5 ⟨rfl, hb⟩
             have HB := Lib.hid (HB.out.next hb); clear hb; obtain ⟨x0, x1, x2⟩ := box3 HB.out.x; obtain ⟨y0, y1, y2⟩ := box3 HB.out.y))
        all_goals try (go_ret; exact ⟨rfl, HB.out.bel⟩)
      | true =>
        have hkj : k = j := Classical.byContradiction fun h => hmain ⟨rfl, rfl, h⟩
        subst hkj
        clear hmain
        go_enter Tryd.func5, Tryd.ntmps5
        go_wp2_with (first
          | (go_at_call 15; first | ((with_reducible refine (RX.out _).mono ?_); rintro e w2 ⟨rfl, hb⟩) | ((with_reducible refine (RY.out _).mono ?_); rintro e w3 ⟨rfl, hb⟩)
             have HB := Lib.hid (HB.out.next hb); clear hb; obtain ⟨x0, x1, x2⟩ := box3 HB.out.x; obtain ⟨y0, y1, y2⟩ := box3 HB.out.y)
          | (go_at_call 19; refine (OX.out _).mono ?_; rintro e w4 ⟨rfl, hb⟩
             have HB := Lib.hid (HB.out.next hb); clear hb; obtain ⟨x0, x1, x2⟩ := box3 HB.out.x; obtain ⟨y0, y1, y2⟩ := box3 HB.out.y)
          | (go_at_call 12; refine (AL.out _ (HE.out.below HB.out.bel)).mono ?_; rintro e w5 ⟨rfl, hb⟩
             have HB := Lib.hid (HB.out.next hb); clear hb; obtain ⟨x0, x1, x2⟩ := box3 HB.out.x; obtain ⟨y0, y1, y2⟩ := box3 HB.out.y))
        all_goals try (go_ret; exact ⟨rfl, HB.out.bel⟩)
end Go.Proofs.YtlegmecmoaibbaaDoor
