/- FaultDeep's walk over what built leaves. -/
import Derived.Test.YtdfmmphoccfacaaDoorL
namespace Go.Proofs.YtdfmmphoccfacaaDoor
open Go.RowKit Go.Extern.Stop Go.Stop Go.Extern

theorem Rep.codes_none {w : World} : ∀ {t : Tree}, Rep w t → t.codes = [] → t = .nil
  | .nil, _, _ => rfl
  | .fault _ _ _ _, _, h => by simp [Tree.codes] at h
  | .join _ l r, hR, h => by
    simp [Tree.codes] at h
    exact absurd (Rep.codes_none hR.2.2.2.2.2.1 h.1) hR.2.1
/-- at the head of FaultDeep's loop -/
def DInv (w : World) (t : Tree) (n : Nat) (v10 v11 : Value) (wr : World) : Prop := ∃ (k : Nat) (u : Tree), v10 = u.val ∧ v11 = .int .i64 k ∧ 1 ≤ k ∧ k ≤ n + 1 ∧ St w u wr ∧ u.codes.length = t.codes.length + (if t = .nil then 0 else k - 1) ∧ u.deep = t.deep + (if t = .nil then 0 else k - 1) ∧ (t = .nil → u = .nil) ∧ (t ≠ .nil → u ≠ .nil) ∧
  (t ≠ .nil → 1 < k → u.codes.head? = some ((k : Int) - 1) ∧ u.places.head? = some ((k : Int) - 1))

theorem dinv_next {w wr w' : World} {t u u' : Tree} {n k b : Nat} (hk : k ≤ n) (hk1 : 1 ≤ k) (hS : St w u wr) (h1 : u.codes.length = t.codes.length + (if t = .nil then 0 else k - 1)) (h2 : u.deep = t.deep + (if t = .nil then 0 else k - 1)) (h3 : t = .nil → u = .nil) (h4 : t ≠ .nil → u ≠ .nil)
    (hb : Below wr.heap.size wr w') (hr : Rep w' u') (hu : u' = wrapT b u k k) : DInv w t n u'.val (.int .i64 ((k : Int) + 1)) w' := by
  refine ⟨k + 1, u', rfl, rfl, by omega, by omega, ⟨hr, hS.han.below hb, hS.bel.trans (hb.mono hS.bel.size)⟩, ?_⟩
  by_cases ht : t = .nil
  · have hun := h3 ht
    have e : u' = u := by rw [hu, hun]; simp [wrapT]
    subst e
    refine ⟨?_, ?_, fun _ => hun, fun h => absurd ht h, fun h => absurd ht h⟩
    · rw [h1]; simp [ht]
    · rw [h2]; simp [ht]
  · have hun := h4 ht
    have e : u' = .fault b k k u := by rw [hu]; simp [wrapT, hun]; omega
    subst e
    rw [if_neg ht] at h1 h2 ⊢
    refine ⟨?_, ?_, fun h => absurd h ht, fun _ => (by intro h; cases h), fun _ _ => ⟨?_, ?_⟩⟩
    · simp only [Tree.codes, List.length_cons]; omega
    · simp only [Tree.deep]; omega
    · simp [Tree.codes]
    · simp [Tree.places]

set_option maxRecDepth 100000 in
set_option maxHeartbeats 4000000 in
theorem deep_law (sl : Value) (c : Int) (hc : i64ok c) (w : World) (hg : Handle w) (HB : Hid (Calls Tryd.prog 8 #[sl] w (BuiltTrees w))) :
    Calls Tryd.prog 7 #[sl, .int .i64 c] w (Ans (.bool true) w) := by
  have HG := Lib.hid hg
  have HC := Lib.hid hc
  have hn51 := pickN_lt c 51 (by omega)
  obtain ⟨n, hn⟩ : ∃ n, n = pickN c 51 := ⟨_, rfl⟩
  have HPK : Hid (∀ w, Calls Tryd.prog 21 #[.int .i64 c, .int .i64 51] w fun e w' => e = .returned (.int .i64 (n : Int)) ∧ w = w') := by
    rw [hn]; exact fun w => pick_any c 51 hc (by omega) (by omega) w
  rw [← hn] at hn51
  clear hg hc hn
  go_enter Tryd.func7, Tryd.ntmps7
  go_wp2_with (first
    | (go_at_call 8; refine HB.out.mono ?_; rintro e w1 ⟨g, m, cap, vt, ts, rfl, hm, hts, hb⟩
       obtain ⟨c1, r1, n1, d1⟩ := hts m (Nat.le_refl _)
       have H := Lib.hid (St.mk r1 (HG.out.below hb) hb)
       have HN := Lib.hid (And.intro n1 d1)
       generalize ts m = t at c1 H HN
       clear r1 n1 d1 hts hb)
    | (go_at_call 21; refine (HPK.out _).mono ?_; rintro e w2 ⟨rfl, rfl⟩)
    | (go_at_call 14; refine (deep_any t _ H.out.rep).mono ?_; rintro e w2 ⟨rfl, rfl⟩)
    | (go_at_call 10; refine (codes_len t _ H.out.rep (by have := HN.out.1; omega)).mono ?_; rintro e w2 ⟨pa, ca, rfl, hb⟩; have H := Lib.hid (H.out.next hb); clear hb))
  have hn0 : (0 : Int) ≤ (n : Int) := Int.natCast_nonneg _
  go_loopw [10, 11] (fun v10 v11 wr => DInv w t n v10 v11 wr) (fun _ v11 _ => (n + 1) - (intOf v11).toNat)
  case atStart => exact ⟨1, t, rfl, rfl, by omega, by omega, H.out, by split <;> simp, by split <;> simp, id, id, fun _ h => absurd h (by omega)⟩
  case round =>
    obtain ⟨k, u, rfl, rfl, hk1, hk2, hS, q1, q2, q3, q4, q5⟩ := hrel
    have H1 := Lib.hid hS
    by_cases hle : k ≤ n
    · have HX : Hid (∀ w' b u', Below wr.heap.size wr w' → Rep w' u' → u' = wrapT b u k k → DInv w t n u'.val (.int .i64 ((k : Int) + 1)) w') := fun w' b u' x1 x2 x3 => dinv_next hle hk1 hS q1 q2 q3 q4 x1 x2 x3
      have HD : Hid (u.deep < 1000000) := by
        have := HN.out.2
        show u.deep < 1000000
        rw [q2]; split <;> omega
      have hki : (k : Int) ≤ (n : Int) := by omega
      have hk0 : (0 : Int) ≤ (k : Int) := by omega
      have hk51 : (k : Int) ≤ 51 := by omega
      have HI : Hid (i64ok (k : Int)) := by unfold i64ok; exact ⟨by omega, by omega⟩
      clear hS q1 q2 q3 q4 q5
      go_wp2_with (go_at_call 18; refine (wrap_any u k k HI.out HI.out _ H1.out.rep HD.out).mono ?_; rintro e w3 ⟨u', rfl, r', b', kk, hu'⟩; have HY := Lib.hid (HX.out _ _ _ b' r' hu'); clear r' b' hu')
      go_roundw
      case rel => exact HY.out
      case measure => simp only [intOf]; omega
    · have hk : k = n + 1 := by omega
      subst hk
      have hnk : ¬ ((n : Int) + 1 ≤ (n : Int)) := by omega
      by_cases ht : t = .nil
      · have hu := q3 ht
        subst hu
        have hz : t.codes.length = 0 := by rw [ht]; rfl
        clear hS q1 q2 q3 q4 q5 hle hk1 hk2
        subst ht
        simp only [Tree.val, Tree.codes, List.length_nil]
        go_wp2_with (first
          | (go_at_call 19; refine (join_nils _).mono ?_; rintro e w2 ⟨rfl, hb⟩; have H1 := Lib.hid (H1.out.next hb); clear hb)
          | (go_at_call 17; refine (alive_any _ H1.out.han).mono ?_; rintro e w2 ⟨rfl, hb⟩; have H1 := Lib.hid (H1.out.next hb); clear hb))
        go_ret
        exact ⟨rfl, H1.out.bel⟩
      · have hu := q4 ht
        rw [if_neg ht] at q1 q2
        have hnz : ¬ t.codes.length = 0 := by
          intro h0
          have : u.codes.length = n := by omega
          exact ht (H.out.rep.codes_none (List.length_eq_zero_iff.1 h0))
        have HQ : Hid (u.codes.length = t.codes.length + n ∧ u.deep = t.deep + n ∧ (0 < n → u.codes.headD 0 = n ∧ u.places.headD (-1) = n)) := by
          refine ⟨by omega, by omega, fun h0 => ?_⟩
          obtain ⟨x1, x2⟩ := q5 ht (by omega)
          rw [List.headD_eq_head?_getD, List.headD_eq_head?_getD, x1, x2]
          simp
        have HB2 : Hid (u.codes.length ≤ 1000000 ∧ u.deep < 1000000 ∧ 2 * u.codes.length ≤ 1000000) := by
          have a1 := HN.out.1
          have a2 := HN.out.2
          refine ⟨by omega, by omega, by omega⟩
        have CU : Hid (∀ wc, Rep wc u → Calls Tryd.prog 10 #[u.val] wc (LenAns (t.codes.length + n) wc)) := fun wc h => by
          have := codes_len u wc h HB2.out.1
          rwa [HQ.out.1] at this
        have DU : Hid (∀ wc, Rep wc u → Calls Tryd.prog 14 #[u.val] wc fun e w' => e = .returned (.int .i64 ((t.deep + n : Nat) : Int)) ∧ wc = w') := fun wc h => by
          have := deep_any u wc h
          rwa [HQ.out.2.1] at this
        have l0 : (0 : Int) ≤ (t.codes.length : Int) := Int.natCast_nonneg _
        have l1 : (t.codes.length : Int) ≤ 16384 := by have := HN.out.1; omega
        have d0 : (0 : Int) ≤ (t.deep : Int) := Int.natCast_nonneg _
        have d1 : (t.deep : Int) ≤ 15 := by have := HN.out.2; omega
        have n1 : (n : Int) ≤ 50 := by omega
        have JJ : Hid (∀ (wc w2 : World) (j : Tree) (b : Nat), Rep w2 j → j = joinT b u u → (Calls Tryd.prog 10 #[j.val] w2 (LenAns (2 * (t.codes.length + n)) w2)) ∧ Calls Tryd.prog 14 #[j.val] w2 fun e w' => e = .returned (.int .i64 ((t.deep + n : Nat) : Int)) ∧ w2 = w') := fun wc w2 j b hr hj => by
          have e : j = .join b u u := by rw [hj]; simp [joinT, hu]
          have e1 : j.codes.length = 2 * (t.codes.length + n) := by rw [e]; simp only [Tree.codes, List.length_append]; have := HQ.out.1; omega
          have e2 : j.deep = t.deep + n := by rw [e]; simp only [Tree.deep]; have := HQ.out.2.1; omega
          have c1 := codes_len j w2 hr (by have := HB2.out.2.2; have := HQ.out.1; omega)
          have c2 := deep_any j w2 hr
          rw [e1] at c1
          rw [e2] at c2
          exact ⟨c1, c2⟩
        by_cases hnn : n = 0
        · have hni : (n : Int) = 0 := by omega
          subst hnn
          clear hS q1 q2 q3 q4 q5 hle hk1 hk2 hu ht hni
          go_wp2_with (first
            | (go_at_call 19; refine (join_any u u _ H1.out.rep H1.out.rep HB2.out.2.1 HB2.out.2.1).mono ?_; rintro e w2 ⟨j, rfl, rj, bj, kj, hj⟩; have HJ := Lib.hid (St.mk rj (H1.out.han.below bj) (H1.out.bel.trans (bj.mono H1.out.bel.size))); have H1 := Lib.hid (H1.out.next bj)
               have JC : Hid (∀ wc, Rep wc j → Calls Tryd.prog 10 #[j.val] wc (LenAns (2 * (t.codes.length + 0)) wc) ∧ Calls Tryd.prog 14 #[j.val] wc fun e w' => e = .returned (.int .i64 ((t.deep + 0 : Nat) : Int)) ∧ wc = w') := fun wc h => JJ.out wc wc j kj h hj
               clear rj bj hj)
            | (go_at_call 17; refine (alive_any _ H1.out.han).mono ?_; rintro e w2 ⟨rfl, hb⟩; have H1 := Lib.hid (H1.out.next hb); have HJ := Lib.hid (HJ.out.next hb); clear hb)
            | (go_at_call 10; first
                | ((with_reducible refine (CU.out _ H1.out.rep).mono ?_); rintro e w2 ⟨pa, ca, rfl, hb⟩; have H1 := Lib.hid (H1.out.next hb); have HJ := Lib.hid (HJ.out.next hb); clear hb)
                | ((with_reducible refine (JC.out _ HJ.out.rep).1.mono ?_); rintro e w2 ⟨pa, ca, rfl, hb⟩; have H1 := Lib.hid (H1.out.next hb); have HJ := Lib.hid (HJ.out.next hb); clear hb))
            | (go_at_call 14; first
                | ((with_reducible refine (DU.out _ H1.out.rep).mono ?_); rintro e w2 ⟨rfl, rfl⟩)
                | ((with_reducible refine (JC.out _ HJ.out.rep).2.mono ?_); rintro e w2 ⟨rfl, rfl⟩)))
          go_ret
          exact ⟨rfl, H1.out.bel⟩
        · have hni : ¬ (n : Int) = 0 := by omega
          have CO : Hid (∀ wc, Rep wc u → Handle wc → Calls Tryd.prog 12 #[u.val] wc (Ans (.int .i64 (n : Int)) wc)) := fun wc h hh => by
            have := code_any u wc h hh
            rwa [(HQ.out.2.2 (by omega)).1] at this
          have AO : Hid (∀ wc, Rep wc u → Handle wc → Calls Tryd.prog 13 #[u.val] wc (Ans (.int .i64 (n : Int)) wc)) := fun wc h hh => by
            have := at_any u wc h hh
            rwa [(HQ.out.2.2 (by omega)).2] at this
          clear hS q1 q2 q3 q4 q5 hle hk1 hk2 hu ht
          go_wp2_with (first
            | (go_at_call 19; refine (join_any u u _ H1.out.rep H1.out.rep HB2.out.2.1 HB2.out.2.1).mono ?_; rintro e w2 ⟨j, rfl, rj, bj, kj, hj⟩; have HJ := Lib.hid (St.mk rj (H1.out.han.below bj) (H1.out.bel.trans (bj.mono H1.out.bel.size))); have H1 := Lib.hid (H1.out.next bj)
               have JC : Hid (∀ wc, Rep wc j → Calls Tryd.prog 10 #[j.val] wc (LenAns (2 * (t.codes.length + n)) wc) ∧ Calls Tryd.prog 14 #[j.val] wc fun e w' => e = .returned (.int .i64 ((t.deep + n : Nat) : Int)) ∧ wc = w') := fun wc h => JJ.out wc wc j kj h hj
               clear rj bj hj)
            | (go_at_call 17; refine (alive_any _ H1.out.han).mono ?_; rintro e w2 ⟨rfl, hb⟩; have H1 := Lib.hid (H1.out.next hb); have HJ := Lib.hid (HJ.out.next hb); clear hb)
            | (go_at_call 12; refine (CO.out _ H1.out.rep H1.out.han).mono ?_; rintro e w2 ⟨rfl, hb⟩; have H1 := Lib.hid (H1.out.next hb); have HJ := Lib.hid (HJ.out.next hb); clear hb)
            | (go_at_call 13; refine (AO.out _ H1.out.rep H1.out.han).mono ?_; rintro e w2 ⟨rfl, hb⟩; have H1 := Lib.hid (H1.out.next hb); have HJ := Lib.hid (HJ.out.next hb); clear hb)
            | (go_at_call 10; first
                | ((with_reducible refine (CU.out _ H1.out.rep).mono ?_); rintro e w2 ⟨pa, ca, rfl, hb⟩; have H1 := Lib.hid (H1.out.next hb); have HJ := Lib.hid (HJ.out.next hb); clear hb)
                | ((with_reducible refine (JC.out _ HJ.out.rep).1.mono ?_); rintro e w2 ⟨pa, ca, rfl, hb⟩; have H1 := Lib.hid (H1.out.next hb); have HJ := Lib.hid (HJ.out.next hb); clear hb))
            | (go_at_call 14; first
                | ((with_reducible refine (DU.out _ H1.out.rep).mono ?_); rintro e w2 ⟨rfl, rfl⟩)
                | ((with_reducible refine (JC.out _ HJ.out.rep).2.mono ?_); rintro e w2 ⟨rfl, rfl⟩)))
          go_ret
          exact ⟨rfl, H1.out.bel⟩
end Go.Proofs.YtdfmmphoccfacaaDoor
