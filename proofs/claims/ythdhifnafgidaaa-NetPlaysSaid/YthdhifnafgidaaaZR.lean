/- The document's Right. -/
import Derived.Test.YthdhifnafgidaaaZG
import Derived.Test.YthdhifnafgidaaaZD
namespace Go.Proofs.Ythdhifnafgidaaa
open Go.RowKit

def lastD (a : Int) : List Int → Int
  | [] => a
  | x :: l => lastD x l
theorem up_snoc (l : List Int) (x : Int) : ∀ a, upN a (l ++ [x]) = (upN a l && decide (lastD a l < x ∧ x < 16)) := by
  induction l with
  | nil => intro a; show (decide (a < x ∧ x < 16) && true) = (true && decide (a < x ∧ x < 16)); rw [Bool.and_true, Bool.true_and]
  | cons y l ih => intro a; show (decide (a < y ∧ y < 16) && upN y (l ++ [x])) = _; rw [ih y]; show _ = ((decide (a < y ∧ y < 16) && upN y l) && decide (lastD y l < x ∧ x < 16)); rw [Bool.and_assoc]
theorem lastD_snoc (l : List Int) (x : Int) : ∀ a, lastD a (l ++ [x]) = x := by
  induction l with
  | nil => intro a; rfl
  | cons y l ih => intro a; exact ih y
theorem lastD_take {ns : List Int} {k : Nat} {p : Int} (h : ns[k]? = some p) : lastD (-1) (ns.take (k + 1)) = p := by
  rw [List.take_add_one, h, Option.toList_some, lastD_snoc]
def RgtL (W0 : World) (ns : List Int) (v3 : Value) (wr : World) : Prop := ∃ i k : Nat, v3 = .int .i64 (i : Int) ∧ i ≤ ns.length ∧ upN (-1) (ns.take i) = true ∧ wr = W0.drewN k
theorem take_next_up {ns : List Int} {i : Nat} {x : Int} (hx : ns[i]? = some x) (h : upN (-1) (ns.take i) = true) (hl : lastD (-1) (ns.take i) < x ∧ x < 16) : upN (-1) (ns.take (i + 1)) = true := by
  rw [List.take_add_one, hx, Option.toList_some, up_snoc, h, decide_eq_true hl]; rfl
theorem take_next_no {ns : List Int} {i : Nat} {x : Int} (hx : ns[i]? = some x) (hl : ¬ (lastD (-1) (ns.take i) < x ∧ x < 16)) : upN (-1) ns = false := by
  cases h : upN (-1) ns with
  | false => rfl
  | true =>
    have h2 := take_up (i := i + 1) h
    rw [List.take_add_one, hx, Option.toList_some, up_snoc, decide_eq_false hl, Bool.and_false] at h2
    cases h2
set_option maxRecDepth 100000 in
theorem refRgt_k1 (k f t x : Int) (ns : List Int) (A : Option Addr) (n cap : Nat) (w : World)  (hk1 : k < 1) :
    Calls Try.prog 29 #[.agg #[.int .i64 k, .int .i64 f, .int .i64 t, .int .i64 x, .slice A n cap]] w (Ans (.bool (Ltr.right ⟨k, f, t, x, ns⟩)) w) := by
  have HB := Lib.hid (alloc_below w (.cells #[.int .i64 k, .int .i64 f, .int .i64 t, .int .i64 x, .slice A n cap] 32))
  obtain ⟨x0, x1, x2, x3, x4⟩ := box5 (heap_alloc_new w (.cells #[.int .i64 k, .int .i64 f, .int .i64 t, .int .i64 x, .slice A n cap] 32))
  rw [show Ltr.right ⟨k, f, t, x, ns⟩ = false from right_bad (show headOk k f t x = false from head_k (by omega))]
  go_enter Try.func29, Try.ntmps29
  go_wp2_with fail
  go_ret
  exact ⟨rfl, HB.out⟩
set_option maxRecDepth 100000 in
theorem refRgt_k2 (k f t x : Int) (ns : List Int) (A : Option Addr) (n cap : Nat) (w : World) (hk1 : ¬ k < 1) (hk2 : 8 < k) :
    Calls Try.prog 29 #[.agg #[.int .i64 k, .int .i64 f, .int .i64 t, .int .i64 x, .slice A n cap]] w (Ans (.bool (Ltr.right ⟨k, f, t, x, ns⟩)) w) := by
  have HB := Lib.hid (alloc_below w (.cells #[.int .i64 k, .int .i64 f, .int .i64 t, .int .i64 x, .slice A n cap] 32))
  obtain ⟨x0, x1, x2, x3, x4⟩ := box5 (heap_alloc_new w (.cells #[.int .i64 k, .int .i64 f, .int .i64 t, .int .i64 x, .slice A n cap] 32))
  rw [show Ltr.right ⟨k, f, t, x, ns⟩ = false from right_bad (show headOk k f t x = false from head_k (by omega))]
  go_enter Try.func29, Try.ntmps29
  go_wp2_with fail
  go_ret
  exact ⟨rfl, HB.out⟩
set_option maxRecDepth 100000 in
theorem refRgt_f1 (k f t x : Int) (ns : List Int) (A : Option Addr) (n cap : Nat) (w : World) (hk1 : ¬ k < 1) (hk2 : ¬ 8 < k) (hf1 : f < 0) :
    Calls Try.prog 29 #[.agg #[.int .i64 k, .int .i64 f, .int .i64 t, .int .i64 x, .slice A n cap]] w (Ans (.bool (Ltr.right ⟨k, f, t, x, ns⟩)) w) := by
  have HB := Lib.hid (alloc_below w (.cells #[.int .i64 k, .int .i64 f, .int .i64 t, .int .i64 x, .slice A n cap] 32))
  obtain ⟨x0, x1, x2, x3, x4⟩ := box5 (heap_alloc_new w (.cells #[.int .i64 k, .int .i64 f, .int .i64 t, .int .i64 x, .slice A n cap] 32))
  rw [show Ltr.right ⟨k, f, t, x, ns⟩ = false from right_bad (show headOk k f t x = false from head_ft (by omega))]
  go_enter Try.func29, Try.ntmps29
  go_wp2_with fail
  go_ret
  exact ⟨rfl, HB.out⟩
set_option maxRecDepth 100000 in
theorem refRgt_f2 (k f t x : Int) (ns : List Int) (A : Option Addr) (n cap : Nat) (w : World) (hk1 : ¬ k < 1) (hk2 : ¬ 8 < k) (hf1 : ¬ f < 0) (hf2 : 16 ≤ f) :
    Calls Try.prog 29 #[.agg #[.int .i64 k, .int .i64 f, .int .i64 t, .int .i64 x, .slice A n cap]] w (Ans (.bool (Ltr.right ⟨k, f, t, x, ns⟩)) w) := by
  have HB := Lib.hid (alloc_below w (.cells #[.int .i64 k, .int .i64 f, .int .i64 t, .int .i64 x, .slice A n cap] 32))
  obtain ⟨x0, x1, x2, x3, x4⟩ := box5 (heap_alloc_new w (.cells #[.int .i64 k, .int .i64 f, .int .i64 t, .int .i64 x, .slice A n cap] 32))
  rw [show Ltr.right ⟨k, f, t, x, ns⟩ = false from right_bad (show headOk k f t x = false from head_ft (by omega))]
  go_enter Try.func29, Try.ntmps29
  go_wp2_with fail
  go_ret
  exact ⟨rfl, HB.out⟩
set_option maxRecDepth 100000 in
theorem refRgt_t1 (k f t x : Int) (ns : List Int) (A : Option Addr) (n cap : Nat) (w : World) (hk1 : ¬ k < 1) (hk2 : ¬ 8 < k) (hf1 : ¬ f < 0) (hf2 : ¬ 16 ≤ f) (ht1 : t < 0) :
    Calls Try.prog 29 #[.agg #[.int .i64 k, .int .i64 f, .int .i64 t, .int .i64 x, .slice A n cap]] w (Ans (.bool (Ltr.right ⟨k, f, t, x, ns⟩)) w) := by
  have HB := Lib.hid (alloc_below w (.cells #[.int .i64 k, .int .i64 f, .int .i64 t, .int .i64 x, .slice A n cap] 32))
  obtain ⟨x0, x1, x2, x3, x4⟩ := box5 (heap_alloc_new w (.cells #[.int .i64 k, .int .i64 f, .int .i64 t, .int .i64 x, .slice A n cap] 32))
  rw [show Ltr.right ⟨k, f, t, x, ns⟩ = false from right_bad (show headOk k f t x = false from head_ft (by omega))]
  go_enter Try.func29, Try.ntmps29
  go_wp2_with fail
  go_ret
  exact ⟨rfl, HB.out⟩
set_option maxRecDepth 100000 in
theorem refRgt_t2 (k f t x : Int) (ns : List Int) (A : Option Addr) (n cap : Nat) (w : World) (hk1 : ¬ k < 1) (hk2 : ¬ 8 < k) (hf1 : ¬ f < 0) (hf2 : ¬ 16 ≤ f) (ht1 : ¬ t < 0) (ht2 : 16 ≤ t) :
    Calls Try.prog 29 #[.agg #[.int .i64 k, .int .i64 f, .int .i64 t, .int .i64 x, .slice A n cap]] w (Ans (.bool (Ltr.right ⟨k, f, t, x, ns⟩)) w) := by
  have HB := Lib.hid (alloc_below w (.cells #[.int .i64 k, .int .i64 f, .int .i64 t, .int .i64 x, .slice A n cap] 32))
  obtain ⟨x0, x1, x2, x3, x4⟩ := box5 (heap_alloc_new w (.cells #[.int .i64 k, .int .i64 f, .int .i64 t, .int .i64 x, .slice A n cap] 32))
  rw [show Ltr.right ⟨k, f, t, x, ns⟩ = false from right_bad (show headOk k f t x = false from head_ft (by omega))]
  go_enter Try.func29, Try.ntmps29
  go_wp2_with fail
  go_ret
  exact ⟨rfl, HB.out⟩
set_option maxRecDepth 100000 in
theorem refRgt_x1 (k f t x : Int) (ns : List Int) (A : Option Addr) (n cap : Nat) (w : World) (hk1 : ¬ k < 1) (hk2 : ¬ 8 < k) (hf1 : ¬ f < 0) (hf2 : ¬ 16 ≤ f) (ht1 : ¬ t < 0) (ht2 : ¬ 16 ≤ t) (hx1_ : x < 0) :
    Calls Try.prog 29 #[.agg #[.int .i64 k, .int .i64 f, .int .i64 t, .int .i64 x, .slice A n cap]] w (Ans (.bool (Ltr.right ⟨k, f, t, x, ns⟩)) w) := by
  have HB := Lib.hid (alloc_below w (.cells #[.int .i64 k, .int .i64 f, .int .i64 t, .int .i64 x, .slice A n cap] 32))
  obtain ⟨x0, x1, x2, x3, x4⟩ := box5 (heap_alloc_new w (.cells #[.int .i64 k, .int .i64 f, .int .i64 t, .int .i64 x, .slice A n cap] 32))
  rw [show Ltr.right ⟨k, f, t, x, ns⟩ = false from right_bad (show headOk k f t x = false from head_x (by omega))]
  go_enter Try.func29, Try.ntmps29
  go_wp2_with fail
  go_ret
  exact ⟨rfl, HB.out⟩
set_option maxRecDepth 100000 in
theorem refRgt_x2 (k f t x : Int) (ns : List Int) (A : Option Addr) (n cap : Nat) (w : World) (hk1 : ¬ k < 1) (hk2 : ¬ 8 < k) (hf1 : ¬ f < 0) (hf2 : ¬ 16 ≤ f) (ht1 : ¬ t < 0) (ht2 : ¬ 16 ≤ t) (hx1_ : ¬ x < 0) (hx2_ : 1099511627776 < x) :
    Calls Try.prog 29 #[.agg #[.int .i64 k, .int .i64 f, .int .i64 t, .int .i64 x, .slice A n cap]] w (Ans (.bool (Ltr.right ⟨k, f, t, x, ns⟩)) w) := by
  have HB := Lib.hid (alloc_below w (.cells #[.int .i64 k, .int .i64 f, .int .i64 t, .int .i64 x, .slice A n cap] 32))
  obtain ⟨x0, x1, x2, x3, x4⟩ := box5 (heap_alloc_new w (.cells #[.int .i64 k, .int .i64 f, .int .i64 t, .int .i64 x, .slice A n cap] 32))
  rw [show Ltr.right ⟨k, f, t, x, ns⟩ = false from right_bad (show headOk k f t x = false from head_x (by omega))]
  go_enter Try.func29, Try.ntmps29
  go_wp2_with fail
  go_ret
  exact ⟨rfl, HB.out⟩
set_option maxRecDepth 100000 in
set_option maxHeartbeats 8000000 in
theorem refRgt_ok (k f t x : Int) (ns : List Int) (A : Option Addr) (n cap : Nat) (hn : ns.length = n) (hn2 : n ≤ 1000000) (w : World) (hr : RdI w w.heap.size A ns) (hk1 : ¬ k < 1) (hk2 : ¬ 8 < k) (hf1 : ¬ f < 0) (hf2 : ¬ 16 ≤ f) (ht1 : ¬ t < 0) (ht2 : ¬ 16 ≤ t) (hx1_ : ¬ x < 0) (hx2_ : ¬ 1099511627776 < x) :
    Calls Try.prog 29 #[.agg #[.int .i64 k, .int .i64 f, .int .i64 t, .int .i64 x, .slice A n cap]] w (Ans (.bool (Ltr.right ⟨k, f, t, x, ns⟩)) w) := by
  have HB := Lib.hid (alloc_below w (.cells #[.int .i64 k, .int .i64 f, .int .i64 t, .int .i64 x, .slice A n cap] 32))
  have hbx := heap_alloc_new w (.cells #[.int .i64 k, .int .i64 f, .int .i64 t, .int .i64 x, .slice A n cap] 32)
  have HX := Lib.hid hbx
  have H0 := Lib.hid (hr.below HB.out (Nat.le_refl _))
  have HN := Lib.hid hn
  obtain ⟨x0, x1, x2, x3, x4⟩ := box5 hbx
  have hni : (n : Int) ≤ 1000000 := by omega
  obtain ⟨r, hr'⟩ : ∃ r, Hid (r = Ltr.right ⟨k, f, t, x, ns⟩) := ⟨_, Lib.hid rfl⟩
  rw [← hr'.out]
  have HO : Hid (headOk k f t x = true) := Lib.hid (head_ok (by omega) (by omega) (by omega))
  have HNO : Hid (upN (-1) ns = false → r = false) := Lib.hid fun h => by
    rw [hr'.out]; unfold Ltr.right
    by_cases hk : k = 1
    · rw [if_pos hk]; rw [show upN (-1) ns = false from h, Bool.and_false]
    · rw [if_neg hk, decide_eq_false (by rintro rfl; cases h), Bool.and_false]
  have HYES : Hid (upN (-1) ns = true → r = ((k == 1) || ((n : Int) == 0))) := Lib.hid fun h => by
    rw [hr'.out]; unfold Ltr.right
    rw [HO.out, Bool.true_and]
    by_cases hk : k = 1
    · rw [if_pos hk, hk]; exact h
    · rw [if_neg hk, show (k == 1) = false by simpa using hk, Bool.false_or, ← HN.out, Bool.eq_iff_iff, decide_eq_true_eq, beq_iff_eq]
      constructor
      · intro h2; have h3 : ns = [] := h2; rw [h3]; rfl
      · intro h2; have h3 : ns.length = 0 := by omega
        exact List.length_eq_zero_iff.1 h3
  have HST : Hid (RgtL (w.alloc (.cells #[.int .i64 k, .int .i64 f, .int .i64 t, .int .i64 x, .slice A n cap] 32)) ns (.int .i64 0) (w.alloc (.cells #[.int .i64 k, .int .i64 f, .int .i64 t, .int .i64 x, .slice A n cap] 32))) := Lib.hid ⟨0, 0, rfl, Nat.zero_le _, rfl, rfl⟩
  clear hr hbx hn hn2
  go_enter Try.func29, Try.ntmps29
  go_wp2_with fail
  generalize hW0 : w.alloc (.cells #[.int .i64 k, .int .i64 f, .int .i64 t, .int .i64 x, .slice A n cap] 32) = W0 at *
  clear hW0 x0 x1 x2 x3 x4 hk1 hk2 hf1 hf2 ht1 ht2 hx1_ hx2_
  go_loopw [3] (fun v3 wr => RgtL W0 ns v3 wr) (fun v3 _ => n - (intOf v3).toNat)
  case atStart => exact HST.out
  case round =>
    obtain ⟨i, q, rfl, hi, hlo, hw⟩ := hrel
    have HLO := Lib.hid hlo
    have HW := Lib.hid hw
    have x0 : wr.cell? ⟨w.heap.size, 0, none⟩ = some (.int .i64 k) := by rw [hw]; exact (box5 HX.out).1
    have x4 : wr.cell? ⟨w.heap.size, 4, none⟩ = some (.slice A n cap) := by rw [hw]; exact (box5 HX.out).2.2.2.2
    have HBW : Hid (∀ k2, Below w.heap.size w (wr.drewN k2)) := Lib.hid fun k2 => HB.out.trans (by rw [hw, World.drewN_drewN]; exact (drewN_below _ _).mono HB.out.size)
    have HBW0 : Hid (Below w.heap.size w wr) := Lib.hid (HB.out.trans (by rw [hw]; exact (drewN_below _ _).mono HB.out.size))
    clear hlo hw
    rw [HN.out] at hi
    by_cases hlt : i < n
    · have hlti : (i : Int) < (n : Int) := by omega
      have hi00 : 0 ≤ (i : Int) := by omega
      obtain ⟨y, hy⟩ : ∃ y, ns[i]? = some y := ⟨_, List.getElem?_eq_getElem (by rw [HN.out]; exact hlt)⟩
      obtain ⟨b0, o0, hA0, _, d0⟩ := H0.out.at_ hy
      subst hA0
      have d0 : wr.cell? ⟨b0, o0 + i, none⟩ = some (.int .i64 y) := by rw [← d0, HW.out]; rfl
      have HGO : Hid (lastD (-1) (ns.take i) < y ∧ y < 16 → ∀ v3 k2, v3 = .int .i64 ((i + 1 : Nat) : Int) → RgtL W0 ns v3 (wr.drewN k2)) := Lib.hid fun h v3 k2 h3 => ⟨i + 1, q + k2, h3, by rw [HN.out]; exact hlt, take_next_up hy HLO.out h, by rw [HW.out, World.drewN_drewN]⟩
      have HBAD : Hid (¬ (lastD (-1) (ns.take i) < y ∧ y < 16) → r = false) := Lib.hid fun h => HNO.out (take_next_no hy h)
      by_cases hy0 : y < 0
      · have HR := Lib.hid (HBAD.out (by
          have h1 : -1 ≤ lastD (-1) (ns.take i) := by
            rcases Nat.eq_zero_or_pos i with h0 | h0
            · subst h0; simp [lastD]
            · obtain ⟨j, rfl⟩ : ∃ j, i = j + 1 := ⟨i - 1, by omega⟩
              obtain ⟨p, hp⟩ : ∃ p, ns[j]? = some p := ⟨_, List.getElem?_eq_getElem (by rw [HN.out]; omega)⟩
              rw [lastD_take hp]
              have := up_mem HLO.out p (List.mem_of_getElem? (i := j) (by rw [List.getElem?_take, if_pos (by omega)]; exact hp)); omega
          omega))
        clear hy hi hlt
        go_wp2_with fail
        go_quiet (fail)
        go_wp2_with fail
        go_ret
        exact ⟨by rw [HR.out]; rfl, HBW.out _⟩
      · have hy0d : decide (y < 0) = false := decide_eq_false hy0
        by_cases hy1 : 16 ≤ y
        · have HR := Lib.hid (HBAD.out (by omega))
          clear hy hi hlt
          go_wp2_with fail
          go_quiet (fail)
          go_wp2_with fail
          go_ret
          exact ⟨by rw [HR.out]; rfl, HBW.out _⟩
        · have hy1d : decide (16 ≤ y) = false := decide_eq_false hy1
          rcases Nat.eq_zero_or_pos i with h0 | h0
          · subst h0
            have HG := Lib.hid (HGO.out ⟨by simp [lastD]; omega, by omega⟩)
            have hii : decide ((0 : Int) < 0) = false := by decide
            simp only [Nat.add_zero] at d0
            clear hy hi hlti hi00
            have hlti : (0 : Int) < (n : Int) := by omega
            go_wp2_with fail
            go_quiet (fail)
            go_wp2_with fail
            go_roundw
            case rel => first | exact HG.out _ _ (by go_num) | ((repeat apply Exists.intro); exact ⟨HG.out _ _ (by go_num), rfl⟩)
            case measure => simp [intOf]; omega
          · obtain ⟨j, rfl⟩ : ∃ j, i = j + 1 := ⟨i - 1, by omega⟩
            obtain ⟨p, hp⟩ : ∃ p, ns[j]? = some p := ⟨_, List.getElem?_eq_getElem (by rw [HN.out]; omega)⟩
            obtain ⟨b1, o1, hA1, _, d1⟩ := H0.out.at_ hp
            injection hA1 with hA1
            injection hA1 with hA1 hA2
            subst hA1 hA2
            have d1 : wr.cell? ⟨b0, o0 + j, none⟩ = some (.int .i64 p) := by rw [← d1, HW.out]; rfl
            have hj0 : (0 : Int) < ((j + 1 : Nat) : Int) := by omega
            have hjj : ((j + 1 : Nat) : Int) - 1 = (j : Int) := by omega
            have hjl : (j : Int) < (n : Int) := by omega
            rw [lastD_take hp] at HGO HBAD
            by_cases hpy : y ≤ p
            · have HR := Lib.hid (HBAD.out (by omega))
              clear hy hi hp
              go_wp2_with fail
              go_quiet (fail)
              go_wp2_with fail
              go_ret
              exact ⟨by rw [HR.out]; rfl, HBW.out _⟩
            · have hpyd : decide (y ≤ p) = false := decide_eq_false hpy
              have HG := Lib.hid (HGO.out ⟨by omega, by omega⟩)
              clear hy hi hp
              go_wp2_with fail
              go_quiet (fail)
              go_wp2_with fail
              go_roundw
              case rel => first | exact HG.out _ _ (by go_num) | ((repeat apply Exists.intro); exact ⟨HG.out _ _ (by go_num), rfl⟩)
              case measure => simp [intOf]; omega
    · have hie : i = n := by omega
      subst hie
      have hlti : ¬ (i : Int) < (i : Int) := by omega
      have HE := Lib.hid (HYES.out (by have h := HLO.out; rw [List.take_of_length_le (by rw [HN.out]; exact Nat.le_refl _)] at h; exact h))
      obtain ⟨kb, hkb⟩ : ∃ kb, (k == 1) = kb := ⟨_, rfl⟩
      rw [hkb] at HE
      clear hi
      cases kb
      · go_wp2_with fail
        go_ret
        exact ⟨by rw [HE.out]; rfl, HBW0.out⟩
      · go_wp2_with fail
        go_ret
        exact ⟨by rw [HE.out]; rfl, HBW0.out⟩
theorem refRgt_any (k f t x : Int) (ns : List Int) (A : Option Addr) (n cap : Nat) (hn : ns.length = n) (hn2 : n ≤ 1000000) (w : World) (hr : RdI w w.heap.size A ns) :
    Calls Try.prog 29 #[.agg #[.int .i64 k, .int .i64 f, .int .i64 t, .int .i64 x, .slice A n cap]] w (Ans (.bool (Ltr.right ⟨k, f, t, x, ns⟩)) w) := by
  by_cases hk1 : k < 1
  · exact refRgt_k1 k f t x ns A n cap w  hk1
  by_cases hk2 : 8 < k
  · exact refRgt_k2 k f t x ns A n cap w hk1 hk2
  by_cases hf1 : f < 0
  · exact refRgt_f1 k f t x ns A n cap w hk1 hk2 hf1
  by_cases hf2 : 16 ≤ f
  · exact refRgt_f2 k f t x ns A n cap w hk1 hk2 hf1 hf2
  by_cases ht1 : t < 0
  · exact refRgt_t1 k f t x ns A n cap w hk1 hk2 hf1 hf2 ht1
  by_cases ht2 : 16 ≤ t
  · exact refRgt_t2 k f t x ns A n cap w hk1 hk2 hf1 hf2 ht1 ht2
  by_cases hx1_ : x < 0
  · exact refRgt_x1 k f t x ns A n cap w hk1 hk2 hf1 hf2 ht1 ht2 hx1_
  by_cases hx2_ : 1099511627776 < x
  · exact refRgt_x2 k f t x ns A n cap w hk1 hk2 hf1 hf2 ht1 ht2 hx1_ hx2_
  exact refRgt_ok k f t x ns A n cap hn hn2 w hr hk1 hk2 hf1 hf2 ht1 ht2 hx1_ hx2_
end Go.Proofs.Ythdhifnafgidaaa
