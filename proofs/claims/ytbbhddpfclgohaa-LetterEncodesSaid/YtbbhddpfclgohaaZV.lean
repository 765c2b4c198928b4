/- LetterEncodes: the document's Right, Encode and Decode of letters, and the law: its own body answers true. -/
import Derived.Test.YtbbhddpfclgohaaZG
import Derived.Test.YtbbhddpfclgohaaZD
import Derived.Test.YtbbhddpfclgohaaZP
import Derived.Test.YtbbhddpfclgohaaWU
import Derived.Test.YtbbhddpfclgohaaKT
import Derived.Test.YtbbhddpfclgohaaZO
import Derived.Test.YtbbhddpfclgohaaWVF
namespace Go.Proofs.Ytbbhddpfclgohaa
open Go.RowKit


def lastD (a : Int) : List Int → Int
  | [] => a
  | x :: l => lastD x l
theorem up_snoc (l : List Int) (x : Int) : ∀ a, upN a (l ++ [x]) = (upN a l && decide (lastD a l < x ∧ x < 16)) := by
  induction l with
  | nil => intro a; show (decide (a < x ∧ x < 16) && true) = (true && decide (a < x ∧ x < 16)); rw [Bool.and_true, Bool.true_and]
  | cons y l ih => intro a; show (decide (a < y ∧ y < 16) && upN y (l ++ [x])) = _; rw [ih y]; show _ = ((decide (a < y ∧ y < 16) && upN y l) && decide (lastD y l < x ∧ x < 16)); rw [Bool.and_assoc]
theorem lastD_snoc (l : List Int) (x : Int) : ∀ a, lastD a (l ++ [x]) = x := by
  induction l with
  | nil => intro a; rfl
  | cons y l ih => intro a; exact ih y
theorem lastD_take {ns : List Int} {k : Nat} {p : Int} (h : ns[k]? = some p) : lastD (-1) (ns.take (k + 1)) = p := by
  rw [List.take_add_one, h, Option.toList_some, lastD_snoc]
def RgtL (W0 : World) (ns : List Int) (v3 : Value) (wr : World) : Prop := ∃ i k : Nat, v3 = .int .i64 (i : Int) ∧ i ≤ ns.length ∧ upN (-1) (ns.take i) = true ∧ wr = W0.drewN k
theorem take_next_up {ns : List Int} {i : Nat} {x : Int} (hx : ns[i]? = some x) (h : upN (-1) (ns.take i) = true) (hl : lastD (-1) (ns.take i) < x ∧ x < 16) : upN (-1) (ns.take (i + 1)) = true := by
  rw [List.take_add_one, hx, Option.toList_some, up_snoc, h, decide_eq_true hl]; rfl
theorem take_next_no {ns : List Int} {i : Nat} {x : Int} (hx : ns[i]? = some x) (hl : ¬ (lastD (-1) (ns.take i) < x ∧ x < 16)) : upN (-1) ns = false := by
  cases h : upN (-1) ns with
  | false => rfl
  | true =>
    have h2 := take_up (i := i + 1) h
    rw [List.take_add_one, hx, Option.toList_some, up_snoc, decide_eq_false hl, Bool.and_false] at h2
    cases h2
set_option maxRecDepth 100000 in
theorem refRgt_k1 (k f t x : Int) (ns : List Int) (A : Option Addr) (n cap : Nat) (w : World)  (hk1 : k < 1) :
    Calls Try.prog 14 #[.agg #[.int .i64 k, .int .i64 f, .int .i64 t, .int .i64 x, .slice A n cap]] w (Ans (.bool (Ltr.right ⟨k, f, t, x, ns⟩)) w) := by
  have HB := Lib.hid (alloc_below w (.cells #[.int .i64 k, .int .i64 f, .int .i64 t, .int .i64 x, .slice A n cap] 25))
  obtain ⟨x0, x1, x2, x3, x4⟩ := box5 (heap_alloc_new w (.cells #[.int .i64 k, .int .i64 f, .int .i64 t, .int .i64 x, .slice A n cap] 25))
  rw [show Ltr.right ⟨k, f, t, x, ns⟩ = false from right_bad (show headOk k f t x = false from head_k (by omega))]
  go_enter Try.func14, Try.ntmps14
  go_wp2_with fail
  go_ret
  exact ⟨rfl, HB.out⟩
set_option maxRecDepth 100000 in
theorem refRgt_k2 (k f t x : Int) (ns : List Int) (A : Option Addr) (n cap : Nat) (w : World) (hk1 : ¬ k < 1) (hk2 : 8 < k) :
    Calls Try.prog 14 #[.agg #[.int .i64 k, .int .i64 f, .int .i64 t, .int .i64 x, .slice A n cap]] w (Ans (.bool (Ltr.right ⟨k, f, t, x, ns⟩)) w) := by
  have HB := Lib.hid (alloc_below w (.cells #[.int .i64 k, .int .i64 f, .int .i64 t, .int .i64 x, .slice A n cap] 25))
  obtain ⟨x0, x1, x2, x3, x4⟩ := box5 (heap_alloc_new w (.cells #[.int .i64 k, .int .i64 f, .int .i64 t, .int .i64 x, .slice A n cap] 25))
  rw [show Ltr.right ⟨k, f, t, x, ns⟩ = false from right_bad (show headOk k f t x = false from head_k (by omega))]
  go_enter Try.func14, Try.ntmps14
  go_wp2_with fail
  go_ret
  exact ⟨rfl, HB.out⟩
set_option maxRecDepth 100000 in
theorem refRgt_f1 (k f t x : Int) (ns : List Int) (A : Option Addr) (n cap : Nat) (w : World) (hk1 : ¬ k < 1) (hk2 : ¬ 8 < k) (hf1 : f < 0) :
    Calls Try.prog 14 #[.agg #[.int .i64 k, .int .i64 f, .int .i64 t, .int .i64 x, .slice A n cap]] w (Ans (.bool (Ltr.right ⟨k, f, t, x, ns⟩)) w) := by
  have HB := Lib.hid (alloc_below w (.cells #[.int .i64 k, .int .i64 f, .int .i64 t, .int .i64 x, .slice A n cap] 25))
  obtain ⟨x0, x1, x2, x3, x4⟩ := box5 (heap_alloc_new w (.cells #[.int .i64 k, .int .i64 f, .int .i64 t, .int .i64 x, .slice A n cap] 25))
  rw [show Ltr.right ⟨k, f, t, x, ns⟩ = false from right_bad (show headOk k f t x = false from head_ft (by omega))]
  go_enter Try.func14, Try.ntmps14
  go_wp2_with fail
  go_ret
  exact ⟨rfl, HB.out⟩
set_option maxRecDepth 100000 in
theorem refRgt_f2 (k f t x : Int) (ns : List Int) (A : Option Addr) (n cap : Nat) (w : World) (hk1 : ¬ k < 1) (hk2 : ¬ 8 < k) (hf1 : ¬ f < 0) (hf2 : 16 ≤ f) :
    Calls Try.prog 14 #[.agg #[.int .i64 k, .int .i64 f, .int .i64 t, .int .i64 x, .slice A n cap]] w (Ans (.bool (Ltr.right ⟨k, f, t, x, ns⟩)) w) := by
  have HB := Lib.hid (alloc_below w (.cells #[.int .i64 k, .int .i64 f, .int .i64 t, .int .i64 x, .slice A n cap] 25))
  obtain ⟨x0, x1, x2, x3, x4⟩ := box5 (heap_alloc_new w (.cells #[.int .i64 k, .int .i64 f, .int .i64 t, .int .i64 x, .slice A n cap] 25))
  rw [show Ltr.right ⟨k, f, t, x, ns⟩ = false from right_bad (show headOk k f t x = false from head_ft (by omega))]
  go_enter Try.func14, Try.ntmps14
  go_wp2_with fail
  go_ret
  exact ⟨rfl, HB.out⟩
set_option maxRecDepth 100000 in
theorem refRgt_t1 (k f t x : Int) (ns : List Int) (A : Option Addr) (n cap : Nat) (w : World) (hk1 : ¬ k < 1) (hk2 : ¬ 8 < k) (hf1 : ¬ f < 0) (hf2 : ¬ 16 ≤ f) (ht1 : t < 0) :
    Calls Try.prog 14 #[.agg #[.int .i64 k, .int .i64 f, .int .i64 t, .int .i64 x, .slice A n cap]] w (Ans (.bool (Ltr.right ⟨k, f, t, x, ns⟩)) w) := by
  have HB := Lib.hid (alloc_below w (.cells #[.int .i64 k, .int .i64 f, .int .i64 t, .int .i64 x, .slice A n cap] 25))
  obtain ⟨x0, x1, x2, x3, x4⟩ := box5 (heap_alloc_new w (.cells #[.int .i64 k, .int .i64 f, .int .i64 t, .int .i64 x, .slice A n cap] 25))
  rw [show Ltr.right ⟨k, f, t, x, ns⟩ = false from right_bad (show headOk k f t x = false from head_ft (by omega))]
  go_enter Try.func14, Try.ntmps14
  go_wp2_with fail
  go_ret
  exact ⟨rfl, HB.out⟩
set_option maxRecDepth 100000 in
theorem refRgt_t2 (k f t x : Int) (ns : List Int) (A : Option Addr) (n cap : Nat) (w : World) (hk1 : ¬ k < 1) (hk2 : ¬ 8 < k) (hf1 : ¬ f < 0) (hf2 : ¬ 16 ≤ f) (ht1 : ¬ t < 0) (ht2 : 16 ≤ t) :
    Calls Try.prog 14 #[.agg #[.int .i64 k, .int .i64 f, .int .i64 t, .int .i64 x, .slice A n cap]] w (Ans (.bool (Ltr.right ⟨k, f, t, x, ns⟩)) w) := by
  have HB := Lib.hid (alloc_below w (.cells #[.int .i64 k, .int .i64 f, .int .i64 t, .int .i64 x, .slice A n cap] 25))
  obtain ⟨x0, x1, x2, x3, x4⟩ := box5 (heap_alloc_new w (.cells #[.int .i64 k, .int .i64 f, .int .i64 t, .int .i64 x, .slice A n cap] 25))
  rw [show Ltr.right ⟨k, f, t, x, ns⟩ = false from right_bad (show headOk k f t x = false from head_ft (by omega))]
  go_enter Try.func14, Try.ntmps14
  go_wp2_with fail
  go_ret
  exact ⟨rfl, HB.out⟩
set_option maxRecDepth 100000 in
theorem refRgt_x1 (k f t x : Int) (ns : List Int) (A : Option Addr) (n cap : Nat) (w : World) (hk1 : ¬ k < 1) (hk2 : ¬ 8 < k) (hf1 : ¬ f < 0) (hf2 : ¬ 16 ≤ f) (ht1 : ¬ t < 0) (ht2 : ¬ 16 ≤ t) (hx1_ : x < 0) :
    Calls Try.prog 14 #[.agg #[.int .i64 k, .int .i64 f, .int .i64 t, .int .i64 x, .slice A n cap]] w (Ans (.bool (Ltr.right ⟨k, f, t, x, ns⟩)) w) := by
  have HB := Lib.hid (alloc_below w (.cells #[.int .i64 k, .int .i64 f, .int .i64 t, .int .i64 x, .slice A n cap] 25))
  obtain ⟨x0, x1, x2, x3, x4⟩ := box5 (heap_alloc_new w (.cells #[.int .i64 k, .int .i64 f, .int .i64 t, .int .i64 x, .slice A n cap] 25))
  rw [show Ltr.right ⟨k, f, t, x, ns⟩ = false from right_bad (show headOk k f t x = false from head_x (by omega))]
  go_enter Try.func14, Try.ntmps14
  go_wp2_with fail
  go_ret
  exact ⟨rfl, HB.out⟩
set_option maxRecDepth 100000 in
theorem refRgt_x2 (k f t x : Int) (ns : List Int) (A : Option Addr) (n cap : Nat) (w : World) (hk1 : ¬ k < 1) (hk2 : ¬ 8 < k) (hf1 : ¬ f < 0) (hf2 : ¬ 16 ≤ f) (ht1 : ¬ t < 0) (ht2 : ¬ 16 ≤ t) (hx1_ : ¬ x < 0) (hx2_ : 1099511627776 < x) :
    Calls Try.prog 14 #[.agg #[.int .i64 k, .int .i64 f, .int .i64 t, .int .i64 x, .slice A n cap]] w (Ans (.bool (Ltr.right ⟨k, f, t, x, ns⟩)) w) := by
  have HB := Lib.hid (alloc_below w (.cells #[.int .i64 k, .int .i64 f, .int .i64 t, .int .i64 x, .slice A n cap] 25))
  obtain ⟨x0, x1, x2, x3, x4⟩ := box5 (heap_alloc_new w (.cells #[.int .i64 k, .int .i64 f, .int .i64 t, .int .i64 x, .slice A n cap] 25))
  rw [show Ltr.right ⟨k, f, t, x, ns⟩ = false from right_bad (show headOk k f t x = false from head_x (by omega))]
  go_enter Try.func14, Try.ntmps14
  go_wp2_with fail
  go_ret
  exact ⟨rfl, HB.out⟩
set_option maxRecDepth 100000 in
set_option maxHeartbeats 8000000 in
theorem refRgt_ok (k f t x : Int) (ns : List Int) (A : Option Addr) (n cap : Nat) (hn : ns.length = n) (hn2 : n ≤ 1000000) (w : World) (hr : RdI w w.heap.size A ns) (hk1 : ¬ k < 1) (hk2 : ¬ 8 < k) (hf1 : ¬ f < 0) (hf2 : ¬ 16 ≤ f) (ht1 : ¬ t < 0) (ht2 : ¬ 16 ≤ t) (hx1_ : ¬ x < 0) (hx2_ : ¬ 1099511627776 < x) :
    Calls Try.prog 14 #[.agg #[.int .i64 k, .int .i64 f, .int .i64 t, .int .i64 x, .slice A n cap]] w (Ans (.bool (Ltr.right ⟨k, f, t, x, ns⟩)) w) := by
  have HB := Lib.hid (alloc_below w (.cells #[.int .i64 k, .int .i64 f, .int .i64 t, .int .i64 x, .slice A n cap] 25))
  have hbx := heap_alloc_new w (.cells #[.int .i64 k, .int .i64 f, .int .i64 t, .int .i64 x, .slice A n cap] 25)
  have HX := Lib.hid hbx
  have H0 := Lib.hid (hr.below HB.out (Nat.le_refl _))
  have HN := Lib.hid hn
  obtain ⟨x0, x1, x2, x3, x4⟩ := box5 hbx
  have hni : (n : Int) ≤ 1000000 := by omega
  obtain ⟨r, hr'⟩ : ∃ r, Hid (r = Ltr.right ⟨k, f, t, x, ns⟩) := ⟨_, Lib.hid rfl⟩
  rw [← hr'.out]
  have HO : Hid (headOk k f t x = true) := Lib.hid (head_ok (by omega) (by omega) (by omega))
  have HNO : Hid (upN (-1) ns = false → r = false) := Lib.hid fun h => by
    rw [hr'.out]; unfold Ltr.right
    by_cases hk : k = 1
    · rw [if_pos hk]; rw [show upN (-1) ns = false from h, Bool.and_false]
    · rw [if_neg hk, decide_eq_false (by rintro rfl; cases h), Bool.and_false]
  have HYES : Hid (upN (-1) ns = true → r = ((k == 1) || ((n : Int) == 0))) := Lib.hid fun h => by
    rw [hr'.out]; unfold Ltr.right
    rw [HO.out, Bool.true_and]
    by_cases hk : k = 1
    · rw [if_pos hk, hk]; exact h
    · rw [if_neg hk, show (k == 1) = false by simpa using hk, Bool.false_or, ← HN.out, Bool.eq_iff_iff, decide_eq_true_eq, beq_iff_eq]
      constructor
      · intro h2; have h3 : ns = [] := h2; rw [h3]; rfl
      · intro h2; have h3 : ns.length = 0 := by omega
        exact List.length_eq_zero_iff.1 h3
  have HST : Hid (RgtL (w.alloc (.cells #[.int .i64 k, .int .i64 f, .int .i64 t, .int .i64 x, .slice A n cap] 25)) ns (.int .i64 0) (w.alloc (.cells #[.int .i64 k, .int .i64 f, .int .i64 t, .int .i64 x, .slice A n cap] 25))) := Lib.hid ⟨0, 0, rfl, Nat.zero_le _, rfl, rfl⟩
  clear hr hbx hn hn2
  go_enter Try.func14, Try.ntmps14
  go_wp2_with fail
  generalize hW0 : w.alloc (.cells #[.int .i64 k, .int .i64 f, .int .i64 t, .int .i64 x, .slice A n cap] 25) = W0 at *
  clear hW0 x0 x1 x2 x3 x4 hk1 hk2 hf1 hf2 ht1 ht2 hx1_ hx2_
  go_loopw [3] (fun v3 wr => RgtL W0 ns v3 wr) (fun v3 _ => n - (intOf v3).toNat)
  case atStart => exact HST.out
  case round =>
    obtain ⟨i, q, rfl, hi, hlo, hw⟩ := hrel
    have HLO := Lib.hid hlo
    have HW := Lib.hid hw
    have x0 : wr.cell? ⟨w.heap.size, 0, none⟩ = some (.int .i64 k) := by rw [hw]; exact (box5 HX.out).1
    have x4 : wr.cell? ⟨w.heap.size, 4, none⟩ = some (.slice A n cap) := by rw [hw]; exact (box5 HX.out).2.2.2.2
    have HBW : Hid (∀ k2, Below w.heap.size w (wr.drewN k2)) := Lib.hid fun k2 => HB.out.trans (by rw [hw, World.drewN_drewN]; exact (drewN_below _ _).mono HB.out.size)
    have HBW0 : Hid (Below w.heap.size w wr) := Lib.hid (HB.out.trans (by rw [hw]; exact (drewN_below _ _).mono HB.out.size))
    clear hlo hw
    rw [HN.out] at hi
    by_cases hlt : i < n
    · have hlti : (i : Int) < (n : Int) := by omega
      have hi00 : 0 ≤ (i : Int) := by omega
      obtain ⟨y, hy⟩ : ∃ y, ns[i]? = some y := ⟨_, List.getElem?_eq_getElem (by rw [HN.out]; exact hlt)⟩
      obtain ⟨b0, o0, hA0, _, d0⟩ := H0.out.at_ hy
      subst hA0
      have d0 : wr.cell? ⟨b0, o0 + i, none⟩ = some (.int .i64 y) := by rw [← d0, HW.out]; rfl
      have HGO : Hid (lastD (-1) (ns.take i) < y ∧ y < 16 → ∀ v3 k2, v3 = .int .i64 ((i + 1 : Nat) : Int) → RgtL W0 ns v3 (wr.drewN k2)) := Lib.hid fun h v3 k2 h3 => ⟨i + 1, q + k2, h3, by rw [HN.out]; exact hlt, take_next_up hy HLO.out h, by rw [HW.out, World.drewN_drewN]⟩
      have HBAD : Hid (¬ (lastD (-1) (ns.take i) < y ∧ y < 16) → r = false) := Lib.hid fun h => HNO.out (take_next_no hy h)
      by_cases hy0 : y < 0
      · have HR := Lib.hid (HBAD.out (by
          have h1 : -1 ≤ lastD (-1) (ns.take i) := by
            rcases Nat.eq_zero_or_pos i with h0 | h0
            · subst h0; simp [lastD]
            · obtain ⟨j, rfl⟩ : ∃ j, i = j + 1 := ⟨i - 1, by omega⟩
              obtain ⟨p, hp⟩ : ∃ p, ns[j]? = some p := ⟨_, List.getElem?_eq_getElem (by rw [HN.out]; omega)⟩
              rw [lastD_take hp]
              have := up_mem HLO.out p (List.mem_of_getElem? (i := j) (by rw [List.getElem?_take, if_pos (by omega)]; exact hp)); omega
          omega))
        clear hy hi hlt
        go_wp2_with fail
        go_quiet (fail)
        go_wp2_with fail
        go_ret
        exact ⟨by rw [HR.out]; rfl, HBW.out _⟩
      · have hy0d : decide (y < 0) = false := decide_eq_false hy0
        by_cases hy1 : 16 ≤ y
        · have HR := Lib.hid (HBAD.out (by omega))
          clear hy hi hlt
          go_wp2_with fail
          go_quiet (fail)
          go_wp2_with fail
          go_ret
          exact ⟨by rw [HR.out]; rfl, HBW.out _⟩
        · have hy1d : decide (16 ≤ y) = false := decide_eq_false hy1
          rcases Nat.eq_zero_or_pos i with h0 | h0
          · subst h0
            have HG := Lib.hid (HGO.out ⟨by simp [lastD]; omega, by omega⟩)
            have hii : decide ((0 : Int) < 0) = false := by decide
            simp only [Nat.add_zero] at d0
            clear hy hi hlti hi00
            have hlti : (0 : Int) < (n : Int) := by omega
            go_wp2_with fail
            go_quiet (fail)
            go_wp2_with fail
            go_roundw
            case rel => first | exact HG.out _ _ (by go_num) | ((repeat apply Exists.intro); exact ⟨HG.out _ _ (by go_num), rfl⟩)
            case measure => simp [intOf]; omega
          · obtain ⟨j, rfl⟩ : ∃ j, i = j + 1 := ⟨i - 1, by omega⟩
            obtain ⟨p, hp⟩ : ∃ p, ns[j]? = some p := ⟨_, List.getElem?_eq_getElem (by rw [HN.out]; omega)⟩
            obtain ⟨b1, o1, hA1, _, d1⟩ := H0.out.at_ hp
            injection hA1 with hA1
            injection hA1 with hA1 hA2
            subst hA1 hA2
            have d1 : wr.cell? ⟨b0, o0 + j, none⟩ = some (.int .i64 p) := by rw [← d1, HW.out]; rfl
            have hj0 : (0 : Int) < ((j + 1 : Nat) : Int) := by omega
            have hjj : ((j + 1 : Nat) : Int) - 1 = (j : Int) := by omega
            have hjl : (j : Int) < (n : Int) := by omega
            rw [lastD_take hp] at HGO HBAD
            by_cases hpy : y ≤ p
            · have HR := Lib.hid (HBAD.out (by omega))
              clear hy hi hp
              go_wp2_with fail
              go_quiet (fail)
              go_wp2_with fail
              go_ret
              exact ⟨by rw [HR.out]; rfl, HBW.out _⟩
            · have hpyd : decide (y ≤ p) = false := decide_eq_false hpy
              have HG := Lib.hid (HGO.out ⟨by omega, by omega⟩)
              clear hy hi hp
              go_wp2_with fail
              go_quiet (fail)
              go_wp2_with fail
              go_roundw
              case rel => first | exact HG.out _ _ (by go_num) | ((repeat apply Exists.intro); exact ⟨HG.out _ _ (by go_num), rfl⟩)
              case measure => simp [intOf]; omega
    · have hie : i = n := by omega
      subst hie
      have hlti : ¬ (i : Int) < (i : Int) := by omega
      have HE := Lib.hid (HYES.out (by have h := HLO.out; rw [List.take_of_length_le (by rw [HN.out]; exact Nat.le_refl _)] at h; exact h))
      obtain ⟨kb, hkb⟩ : ∃ kb, (k == 1) = kb := ⟨_, rfl⟩
      rw [hkb] at HE
      clear hi
      cases kb
      · go_wp2_with fail
        go_ret
        exact ⟨by rw [HE.out]; rfl, HBW0.out⟩
      · go_wp2_with fail
        go_ret
        exact ⟨by rw [HE.out]; rfl, HBW0.out⟩
theorem refRgt_any (k f t x : Int) (ns : List Int) (A : Option Addr) (n cap : Nat) (hn : ns.length = n) (hn2 : n ≤ 1000000) (w : World) (hr : RdI w w.heap.size A ns) :
    Calls Try.prog 14 #[.agg #[.int .i64 k, .int .i64 f, .int .i64 t, .int .i64 x, .slice A n cap]] w (Ans (.bool (Ltr.right ⟨k, f, t, x, ns⟩)) w) := by
  by_cases hk1 : k < 1
  · exact refRgt_k1 k f t x ns A n cap w  hk1
  by_cases hk2 : 8 < k
  · exact refRgt_k2 k f t x ns A n cap w hk1 hk2
  by_cases hf1 : f < 0
  · exact refRgt_f1 k f t x ns A n cap w hk1 hk2 hf1
  by_cases hf2 : 16 ≤ f
  · exact refRgt_f2 k f t x ns A n cap w hk1 hk2 hf1 hf2
  by_cases ht1 : t < 0
  · exact refRgt_t1 k f t x ns A n cap w hk1 hk2 hf1 hf2 ht1
  by_cases ht2 : 16 ≤ t
  · exact refRgt_t2 k f t x ns A n cap w hk1 hk2 hf1 hf2 ht1 ht2
  by_cases hx1_ : x < 0
  · exact refRgt_x1 k f t x ns A n cap w hk1 hk2 hf1 hf2 ht1 ht2 hx1_
  by_cases hx2_ : 1099511627776 < x
  · exact refRgt_x2 k f t x ns A n cap w hk1 hk2 hf1 hf2 ht1 ht2 hx1_ hx2_
  exact refRgt_ok k f t x ns A n cap hn hn2 w hr hk1 hk2 hf1 hf2 ht1 ht2 hx1_ hx2_


theorem w64 {n : Int} (h0 : 0 ≤ n) (h1 : n < 1000000) : wrap64 n = n := by unfold wrap64; omega
theorem sumB_snoc (b : Nat) (l : List Int) (y : Int) : sumB b (l ++ [y]) = sumB b l + 2 ^ y.toNat := by simp [sumB]
theorem sum_or {ns : List Int} (h : upN (-1) ns = true) : sumB 0 ns = orB 0 ns := (or_sum (a := -1) (b := 0) (by omega) h (by decide)).symm
def SmBL (ns : List Int) (v5 v6 : Value) : Prop := ∃ i : Nat, v5 = .int .i64 ((sumB 0 (ns.take i) : Nat) : Int) ∧ v6 = .int .i64 i ∧ i ≤ ns.length
def numsL (l : Ltr) : List Int := [l.k, l.f, l.t, l.x, (orB 0 l.ns : Nat)]
theorem nums_row (l : Ltr) : l.row = (numsL l).map intV := rfl
def EvL (W2 : World) (l : Ltr) (v8 v9 : Value) (wr : World) : Prop := ∃ (i : Nat) (y : Value), y = v8 ∧ v9 = .int .i64 i ∧ i ≤ 5 ∧ OwnV wr W2.heap.size y (l.row.take i) ∧ Below W2.heap.size W2 wr
theorem refEncR_right (l : List Val) (A : Option Addr) (n cap : Nat) (hn : n = l.length) (w : World) (hl : l.length ≤ 16) (hok : AllOk l) (hR : ∀ x ∈ l, x.R) (hr : RdV w w.heap.size A l) :
    Calls Try.prog 18 #[.slice A n cap] w (EncR w l) := by
  subst hn
  refine (refEncodeR_any l A cap w hok hr).mono fun e w' ⟨hb, h⟩ => ?_
  rcases h with ⟨_, v, he, ho⟩ | ⟨hno, _⟩
  · exact ⟨v, he, ho, hb⟩
  · exact absurd ⟨hl, fun x hx => (hR x hx).1⟩ hno
theorem five_cells {W : World} {b : Nat} {a0 a1 a2 a3 a4 : Int} {t : TypeId} (h : W.heap[b]? = some (.cells #[.int .i64 a0, .int .i64 a1, .int .i64 a2, .int .i64 a3, .int .i64 a4] t (0, 0))) {i : Nat} {x : Int} (hx : [a0, a1, a2, a3, a4][i]? = some x) : W.cell? ⟨b, i, none⟩ = some (.int .i64 x) := by
  rw [cell_of_row _ _ _ _ _ (0, 0) h]
  match i with
  | 0 => simp at hx; subst hx; rfl
  | 1 => simp at hx; subst hx; rfl
  | 2 => simp at hx; subst hx; rfl
  | 3 => simp at hx; subst hx; rfl
  | 4 => simp at hx; subst hx; rfl
  | i + 5 => simp at hx
set_option maxRecDepth 100000 in
set_option maxHeartbeats 8000000 in
theorem refEncL_no (l : Ltr) (hR : l.right = false) (A : Option Addr) (n cap : Nat) (hn : l.ns.length = n) (hn2 : n ≤ 1000000) (w : World) (hr : RdI w w.heap.size A l.ns) :
    Calls Try.prog 9 #[.agg #[.int .i64 l.k, .int .i64 l.f, .int .i64 l.t, .int .i64 l.x, .slice A n cap]] w (EncN w) := by
  obtain ⟨k, f, t, x, ns⟩ := l
  simp only at hn hr ⊢
  have hb0 := alloc_below w (.cells #[.int .i64 k, .int .i64 f, .int .i64 t, .int .i64 x, .slice A n cap] 25)
  have HB := Lib.hid hb0
  obtain ⟨x0, x1, x2, x3, x4⟩ := box5 (heap_alloc_new w (.cells #[.int .i64 k, .int .i64 f, .int .i64 t, .int .i64 x, .slice A n cap] 25))
  have HR := Lib.hid (refRgt_any k f t x ns A n cap hn hn2 _ ((hr.below hb0 (Nat.le_refl _)).more hb0.size))
  rw [hR] at HR
  clear hr hn hn2 hR hb0
  go_enter Try.func9, Try.ntmps9
  go_wp2_with (go_at_call 14; refine HR.out.mono ?_; rintro e w2 ⟨rfl, hb⟩
               have HB := Lib.hid (HB.out.trans (hb.mono HB.out.size)); clear hb)
  go_ret2
  exact ⟨rfl, HB.out⟩
set_option maxRecDepth 100000 in
set_option maxHeartbeats 8000000 in
theorem refEncL_yes (l : Ltr) (hR : l.right = true) (A : Option Addr) (n cap : Nat) (hn : l.ns.length = n) (w : World) (hr : RdI w w.heap.size A l.ns) :
    Calls Try.prog 9 #[.agg #[.int .i64 l.k, .int .i64 l.f, .int .i64 l.t, .int .i64 l.x, .slice A n cap]] w (EncY w l) := by
  obtain ⟨i0, hi, hz0, hz1, hz2⟩ := info_parts infoV
  have hn2 : n ≤ 16 := by
    have := up_len (a := -1) (by omega) (by omega) (Ltr.up hR)
    omega
  have HE := Lib.hid (fun W A cap hv => refEncR_right l.row A 5 cap rfl W (by simp [Ltr.row]) (Ltr.row_ok hR) (Ltr.row_R hR) hv)
  have HNU : Hid (∀ i x, [l.k, l.f, l.t, l.x, ((orB 0 l.ns : Nat) : Int)][i]? = some x → l.row[i]? = some (intV x)) := Lib.hid fun i x hx => by
    have h : l.row = [l.k, l.f, l.t, l.x, ((orB 0 l.ns : Nat) : Int)].map intV := rfl
    rw [h, List.getElem?_map, hx]; rfl
  have HRT := Lib.hid (fun W A cap hv => refRgt_any l.k l.f l.t l.x l.ns A n cap hn (by omega) W hv)
  rw [show Ltr.right ⟨l.k, l.f, l.t, l.x, l.ns⟩ = true from hR] at HRT
  have HY : Hid (∀ v w', OwnB w' w.heap.size v l.bytes → Below w.heap.size w w' → EncY w l (.returned (.tuple #[v, .int .i64 0])) w') := Lib.hid fun v w' ho hb => ⟨v, rfl, ho, hb⟩
  have HUP := Lib.hid (Ltr.up hR)
  have HN := Lib.hid hn
  have hb0 := alloc_below w (.cells #[.int .i64 l.k, .int .i64 l.f, .int .i64 l.t, .int .i64 l.x, .slice A n cap] 25)
  have HB := Lib.hid hb0
  have HX : Hid (LBx (w.alloc (lv l A n cap)) w.heap.size l A n cap) := Lib.hid ⟨heap_alloc_new w _, (hr.below (alloc_below w _) (Nat.le_refl _)).more (alloc_below w _).size⟩
  obtain ⟨x0, x1, x2, x3, x4⟩ := HX.out.cells
  have hni : (n : Int) ≤ 16 := by omega
  have HST : Hid (SmBL l.ns (.int .i64 0) (.int .i64 0)) := Lib.hid ⟨0, rfl, rfl, Nat.zero_le _⟩
  unfold lv at HX x0 x1 x2 x3 x4
  clear hr hn hn2 hR hb0
  obtain ⟨k, f, t, x, ns⟩ := l
  simp only at *
  go_enter Try.func9, Try.ntmps9
  go_wp2_with (go_at_call 14; refine (HRT.out _ _ _ HX.out.rd).mono ?_; rintro e w1 ⟨rfl, hb⟩
               have HB := Lib.hid (HB.out.trans (hb.mono HB.out.size))
               have HX := Lib.hid (HX.out.next hb)
               clear x0 x1 x2 x3 x4 hb
               obtain ⟨x0, x1, x2, x3, x4⟩ := HX.out.cells)
  go_loop [5, 6] (fun v5 v6 => SmBL ns v5 v6) (fun _ v6 => n - (intOf v6).toNat)
  case atStart => exact HST.out
  case round =>
    obtain ⟨i, rfl, rfl, hi2⟩ := hrel
    rw [HN.out] at hi2
    obtain ⟨u, hu⟩ : ∃ u, Hid (u = sumB 0 (ns.take i)) := ⟨_, Lib.hid rfl⟩
    rw [← hu.out]
    by_cases hlt : i < n
    · obtain ⟨y, hx⟩ : ∃ x, ns[i]? = some x := ⟨_, List.getElem?_eq_getElem (by rw [HN.out]; exact hlt)⟩
      obtain ⟨b, o, hA, hbg, hc⟩ := HX.out.rd.at_ hx
      subst hA
      have hy := up_mem HUP.out y (List.mem_of_getElem? hx)
      have hlti : (i : Int) < (n : Int) := by omega
      have hi00 : 0 ≤ (i : Int) := by omega
      obtain ⟨z, rfl⟩ : ∃ z : Nat, y = (z : Int) := ⟨y.toNat, by omega⟩
      have hz16 : z < 16 := by omega
      have HUL : Hid (u < 65536) := Lib.hid (by rw [hu.out, sum_or (take_up HUP.out)]; exact or_lt (by omega) (take_up HUP.out) (by decide))
      have hzi : (z : Int) < 16 := by omega
      have hz00 : 0 ≤ (z : Int) := by omega
      have hp16 : 2 ^ z < 65536 := Nat.pow_lt_pow_right (m := z) (n := 16) (by decide) hz16
      have HNX : Hid (∀ v6, v6 = .int .i64 ((i + 1 : Nat) : Int) → SmBL ns (.int .i64 (wrap64 ((u : Int) + wrap64 (2 ^ z)))) v6) := Lib.hid fun v6 h6 => ⟨i + 1, by
        have e1 : sumB 0 (ns.take (i + 1)) = u + 2 ^ z := by rw [List.take_add_one, hx, Option.toList_some, sumB_snoc, ← hu.out]; simp
        have e2 : ((2 : Int) ^ z) = ((2 ^ z : Nat) : Int) := by simp
        rw [e1, e2]
        have h1 := HUL.out
        generalize 2 ^ z = q at *
        rw [w64 (n := ((q : Nat) : Int)) (by omega) (by omega), w64 (n := (u : Int) + (q : Int)) (by omega) (by omega)]
        exact congrArg (Value.int .i64) (by omega), h6, by rw [HN.out]; exact hlt⟩
      clear hy hbg hp16 hx hi2 hz16
      go_wp2_with fail
      go_round
      case rel => exact HNX.out _ (by go_num)
      case measure => simp [intOf]; omega
    · have hie : i = n := by omega
      have HU2 : Hid (u = orB 0 ns) := Lib.hid (by rw [hu.out, hie, List.take_of_length_le (by rw [HN.out]; exact Nat.le_refl _), sum_or HUP.out])
      have hlti : ¬ (i : Int) < (n : Int) := by omega
      clear hlt hi2 hie
      have HW2 : Hid ((w1.alloc (.cells #[.int .i64 k, .int .i64 f, .int .i64 t, .int .i64 x, .int .i64 (u : Int)] 2)).heap[w1.heap.size]? = some (.cells #[.int .i64 k, .int .i64 f, .int .i64 t, .int .i64 x, .int .i64 (u : Int)] 2 (0, 0))) := Lib.hid (heap_alloc_new w1 _)
      have HB2 := Lib.hid (HB.out.trans ((alloc_below w1 (.cells #[.int .i64 k, .int .i64 f, .int .i64 t, .int .i64 x, .int .i64 (u : Int)] 2)).mono HB.out.size))
      go_wp2_with fail
      generalize hW2 : w1.alloc (.cells #[.int .i64 k, .int .i64 f, .int .i64 t, .int .i64 x, .int .i64 (u : Int)] 2) = W2 at *
      clear hW2
      go_loopw [8, 9] (fun v8 v9 wr => EvL W2 ⟨k, f, t, x, ns⟩ v8 v9 wr) (fun _ v9 _ => 5 - (intOf v9).toNat)
      case atStart => exact ⟨0, _, rfl, rfl, by omega, ⟨⟨by simp [valsV], .inl ⟨rfl, rfl⟩⟩, none, 0, rfl, by simp⟩, Below.refl _ _⟩
      case round =>
        obtain ⟨j, y, rfl, rfl, hj, ho, hb⟩ := hrel
        have HO := Lib.hid ho
        have HBR := Lib.hid hb
        clear ho hb
        by_cases hj5 : j < 5
        · have hji : (j : Int) < 5 := by omega
          have hj00 : 0 ≤ (j : Int) := by omega
          obtain ⟨z, hz⟩ : ∃ z, [k, f, t, x, (u : Int)][j]? = some z := ⟨_, List.getElem?_eq_getElem (by simp; omega)⟩
          have hc := five_cells ((HBR.out.block _ (Array.getElem?_eq_some_iff.1 HW2.out).1).trans HW2.out) hz
          have hrow := HNU.out j z (by rw [← HU2.out]; exact hz)
          have HM : Hid (((Ltr.row ⟨k, f, t, x, ns⟩).take j).length + [intV z].length ≤ 100) := Lib.hid (by simp; omega)
          have HBZ := Lib.hid (Nat.le_trans HBR.out.size (alloc_below wr (.cells #[.int .i64 2, .int .i64 z, .string ⟨#[]⟩] 45)).size)
          have HNX : Hid (∀ v6 w6, OwnV w6 W2.heap.size v6 ((Ltr.row ⟨k, f, t, x, ns⟩).take j ++ [intV z]) → Grew (wr.alloc (.cells #[.int .i64 2, .int .i64 z, .string ⟨#[]⟩] 45)) y w6 v6 → ∀ v9, v9 = .int .i64 ((j + 1 : Nat) : Int) → EvL W2 ⟨k, f, t, x, ns⟩ v6 v9 w6) := Lib.hid fun v6 w6 ho hg v9 h9 => ⟨j + 1, v6, rfl, h9, by omega, by rw [List.take_add_one, hrow, Option.toList_some]; exact ho, (HBR.out.trans ((alloc_below wr _).mono HBR.out.size)).trans (hg.toBelow HBZ.out HO.out.ge)⟩
          clear hz hrow hj hj5
          go_wp2_with (refine wpList_appV (xs := (Ltr.row ⟨k, f, t, x, ns⟩).take j) (ys := [intV z]) (B := W2.heap.size) rfl _ _ 40 rfl Try.underlying40 hi hz0 hz1 hz2 rfl (HO.out.below (alloc_below wr _)) rfl rfl (rd_val (x := intV z) (heap_alloc_new wr _)) (by have := HM.out; omega) HBZ.out ?_
                       intro v6 w6 ho6 hg6
                       have HY6 := Lib.hid (HNX.out v6 w6 ho6 hg6)
                       clear ho6 hg6)
          go_roundw
          case rel => first | exact HY6.out _ (by go_num) | ((repeat apply Exists.intro); exact ⟨HY6.out _ (by go_num), rfl⟩)
          case measure => simp [intOf]; omega
        · have hje : j = 5 := by omega
          have hji : ¬ (j : Int) < 5 := by omega
          have hos := HO.out
          rw [hje, List.take_of_length_le (by simp [Ltr.row])] at hos
          obtain ⟨A5, c5, hv5, _⟩ := hos.2
          subst hv5
          have HV := Lib.hid hos.rd
          have HB5 := Lib.hid (HB2.out.trans (HBR.out.mono HB2.out.size))
          clear hos hj hj5 hje HO
          go_wp2_with (go_at_call 18; refine (HE.out _ _ _ HV.out).mono ?_; rintro e w9 ⟨v9, rfl, ho9, hb9⟩
                       have HZ := Lib.hid (HY.out v9 w9 (ho9.low_ HB5.out.size) (HB5.out.trans (hb9.mono HB5.out.size)))
                       clear ho9 hb9)
          go_ret2
          exact HZ.out


theorem refdec_yes {m : List Val} (hm : ∀ x ∈ m, x.R) (h16 : m.length ≤ 16) {A : Option Addr} {n cap : Nat} {w : World} (hn : (rowB m).length = n) (hcap : n ≤ cap) (hl : n ≤ 100000) (hr : RdB w w.heap.size A (rowB m)) : Calls Try.prog 21 #[.slice A n cap] w (RdY w m) := by
  subst hn
  refine (refDecodeR_any (rowB m) A cap w hcap hl hr).mono fun e w' ⟨hb, h⟩ => ?_
  rcases h with ⟨l, v, he, hl, hl16, hlm, ho⟩ | ⟨_, hno⟩
  · obtain ⟨rfl, _⟩ := rowB_inj (u := []) (v := []) hl hm hl16 h16 (by rw [hlm])
    obtain ⟨A', cap', rfl, hv, _⟩ := OwnV.sl ho
    exact ⟨A', cap', he, hv, hb⟩
  · exact absurd rfl (hno m hm h16)
theorem refdec_no {bs : List UInt8} (h : ∀ m : List Val, (∀ x ∈ m, x.R) → m.length ≤ 16 → bs ≠ rowB m) {A : Option Addr} {n cap : Nat} {w : World} (hn : bs.length = n) (hcap : n ≤ cap) (hl : n ≤ 100000) (hr : RdB w w.heap.size A bs) : Calls Try.prog 21 #[.slice A n cap] w (RdN w) := by
  subst hn
  refine (refDecodeR_any bs A cap w hcap hl hr).mono fun e w' ⟨hb, k⟩ => ?_
  rcases k with ⟨l, v, he, hl, hl16, hlm, ho⟩ | ⟨he, _⟩
  · exact absurd hlm (h l hl hl16)
  · exact ⟨he, hb⟩
theorem rem2 {b i : Nat} : (((b : Int) / 2 ^ i).tmod 2 == 1) = b.testBit i := by
  have e : ((b : Int) / 2 ^ i) = ((b / 2 ^ i : Nat) : Int) := by simp
  rw [e, Nat.testBit_eq_decide_div_mod_eq]
  generalize b / 2 ^ i = a
  rw [Int.tmod_eq_emod_of_nonneg (by omega), Bool.eq_iff_iff, beq_iff_eq, decide_eq_true_eq]
  omega
/-- the nodes that the document reads -/
def bitZ (a : Int) (i : Nat) : Bool := (a / 2 ^ i).tmod 2 != 0
def nodesZ (a : Int) (i : Nat) : List Int := ((List.range i).filter (bitZ a)).map Int.ofNat
theorem nodesZ_yes {a : Int} {i : Nat} (h : bitZ a i = true) : nodesZ a (i + 1) = nodesZ a i ++ [(i : Int)] := by
  unfold nodesZ; rw [List.range_succ, List.filter_append, List.map_append]; simp [h]
theorem nodesZ_no {a : Int} {i : Nat} (h : bitZ a i = false) : nodesZ a (i + 1) = nodesZ a i := by
  unfold nodesZ; rw [List.range_succ, List.filter_append, List.map_append]; simp [h]
theorem nodesZ_len (a : Int) (i : Nat) : (nodesZ a i).length ≤ i := by
  unfold nodesZ; rw [List.length_map]; exact Nat.le_trans (List.length_filter_le _ _) (by simp)
theorem bitZ_nat (b i : Nat) : bitZ (b : Int) i = b.testBit i := by
  have h := rem2 (b := b) (i := i)
  rw [← h]
  unfold bitZ
  have e : ((b : Int) / 2 ^ i) = ((b / 2 ^ i : Nat) : Int) := by simp
  rw [e]
  generalize b / 2 ^ i = a
  rw [Int.tmod_eq_emod_of_nonneg (by omega), Bool.eq_iff_iff, bne_iff_ne, beq_iff_eq]
  omega
theorem nodesZ_nat (b : Nat) : nodesZ (b : Int) 16 = nodesI b := by
  unfold nodesZ nodesI nodesN
  congr 1
  exact List.filter_congr fun i _ => bitZ_nat b i
def ofVals (m : List Val) : Ltr := match m with
  | [a, b, c, d, e] => ⟨a.n, b.n, c.n, d.n, nodesZ e.n 16⟩
  | _ => ⟨0, 0, 0, 0, []⟩
theorem ofVals_row {l : Ltr} (h : l.right = true) : ofVals l.row = l := by
  show (⟨l.k, l.f, l.t, l.x, nodesZ ((orB 0 l.ns : Nat) : Int) 16⟩ : Ltr) = l
  rw [nodesZ_nat, nodes_or (l.up h)]
/-- the letter that the document builds -/
structure BxB (w W : World) (a0 a1 a2 a3 : Int) (v : Value) (ns : List Int) : Prop where
  bel : Below w.heap.size w W
  box : W.heap[w.heap.size]? = some (.cells #[.int .i64 a0, .int .i64 a1, .int .i64 a2, .int .i64 a3, v] 25 (0, 0))
  own : OwnI W (w.heap.size + 1) v ns
theorem BxB.set {w W W2 : World} {a0 a1 a2 a3 : Int} {v v2 : Value} {ns ms : List Int} (h : BxB w W a0 a1 a2 a3 v ns) (hb : Below (w.heap.size + 1) W W2) (ho : OwnI W2 (w.heap.size + 1) v2 ms) : BxB w (W2.setCell ⟨w.heap.size, 4, none⟩ v2) a0 a1 a2 a3 v2 ms := by
  have hlt := (Array.getElem?_eq_some_iff.1 h.box).1
  have hbx := (hb.block _ (by omega)).trans h.box
  have g := grown_set W2 w.heap.size 4 v2
  have hW : Below w.heap.size w W2 := ⟨hb.os.trans h.bel.os, hb.tape.trans h.bel.tape, hb.output.trans h.bel.output, Nat.le_trans h.bel.size hb.size, fun k hk => (hb.block k (by omega)).trans (h.bel.block k hk)⟩
  refine ⟨hW.trans (grown_below' g (Nat.le_refl _) hW.size), ?_, ho.kept g (fun e => by have := ho.ge _ e; omega)⟩
  simp [World.setCell, Array.getElem?_modify, hbx]
theorem dcY_mk {w W5 : World} {l : Ltr} {A : Option Addr} {cap m : Nat} (hm : l.ns.length = m) (ho : OwnI W5 w.heap.size (.slice A m cap) l.ns) (hb : Below w.heap.size w W5) : DcY w l (.returned (.tuple #[.agg #[.int .i64 l.k, .int .i64 l.f, .int .i64 l.t, .int .i64 l.x, .slice A m cap], .int .i64 0])) W5 := by
  subst hm
  exact ⟨A, cap, rfl, ho, hb⟩
def BxL (w : World) (a0 a1 a2 a3 a4 : Int) (v7 : Value) (wr : World) : Prop := ∃ (i : Nat) (v : Value), v7 = .int .i64 i ∧ i ≤ 16 ∧ BxB w wr a0 a1 a2 a3 v (nodesZ a4 i)
set_option maxRecDepth 100000 in
set_option maxHeartbeats 8000000 in
theorem refD_none {bs : List UInt8} (h : ∀ m : List Val, (∀ x ∈ m, x.R) → m.length ≤ 16 → bs ≠ rowB m) {A : Option Addr} {n cap : Nat} {w : World} (hn : bs.length = n) (hcap : n ≤ cap) (hl : n ≤ 100000) (hr : RdB w w.heap.size A bs) : Calls Try.prog 11 #[.slice A n cap] w (DcN w) := by
  obtain ⟨w0, hw0⟩ : ∃ w0, w0 = w.alloc (.cells #[.int .i64 0, .int .i64 0, .int .i64 0, .int .i64 0, .slice none 0 0] 25) := ⟨_, rfl⟩
  have hb0 : Below w.heap.size w w0 := by rw [hw0]; exact alloc_below w _
  obtain ⟨hX, hZ⟩ := dec_box hw0
  have HX := Lib.hid hX
  have HZ := Lib.hid hZ
  have HD := Lib.hid (refdec_no h hn hcap hl ((hr.below hb0 (Nat.le_refl _)).more hb0.size) (w := w0))
  clear hX hZ hr hn h hcap hb0 hl
  subst hw0
  go_enter Try.func11, Try.ntmps11
  go_wp2_with (go_at_call 21; refine HD.out.mono ?_; rintro e w1 ⟨rfl, hb⟩
               have h1 := HX.out w1 hb
               obtain ⟨y0, y1, y2, y3, y4⟩ := box5 h1
               have z0 := frozen_of h1 0
               have z1 := frozen_of h1 1
               have z2 := frozen_of h1 2
               have z3 := frozen_of h1 3
               have z4 := frozen_of h1 4
               have HQ := Lib.hid (HZ.out w1 (.int .i64 0) (.int .i64 0) (.int .i64 0) (.int .i64 0) (.slice none 0 0) hb)
               clear h1 hb)
  refine bodyPost_ret (v := .tuple #[.agg #[.int .i64 0, .int .i64 0, .int .i64 0, .int .i64 0, .slice none 0 0], .int .i64 111]) (by simp [results, Try.results11, go_sem, y0, y1, y2, y3, y4]) rfl ?_
  exact ⟨rfl, HQ.out.1⟩
set_option maxRecDepth 100000 in
set_option maxHeartbeats 8000000 in
theorem refD_len {m : List Val} (hm : ∀ x ∈ m, x.R) (h16 : m.length ≤ 16) (h5 : m.length ≠ 5) {A : Option Addr} {n cap : Nat} {w : World} (hn : (rowB m).length = n) (hcap : n ≤ cap) (hl : n ≤ 100000) (hr : RdB w w.heap.size A (rowB m)) : Calls Try.prog 11 #[.slice A n cap] w (DcN w) := by
  obtain ⟨w0, hw0⟩ : ∃ w0, w0 = w.alloc (.cells #[.int .i64 0, .int .i64 0, .int .i64 0, .int .i64 0, .slice none 0 0] 25) := ⟨_, rfl⟩
  have hb0 : Below w.heap.size w w0 := by rw [hw0]; exact alloc_below w _
  obtain ⟨hX, hZ⟩ := dec_box hw0
  have HX := Lib.hid hX
  have HZ := Lib.hid hZ
  have HD := Lib.hid (refdec_yes hm h16 hn hcap hl ((hr.below hb0 (Nat.le_refl _)).more hb0.size) (w := w0))
  obtain ⟨ml, hml⟩ : ∃ ml, m.length = ml := ⟨_, rfl⟩
  unfold RdY at HD
  rw [hml] at HD
  have hne : ((ml : Int) != 5) = true := by simpa using (by omega : ¬ (ml : Int) = 5)
  clear hX hZ hr hn hm h16 h5 hcap hb0 hl hml
  subst hw0
  go_enter Try.func11, Try.ntmps11
  go_wp2_with (go_at_call 21; refine HD.out.mono ?_; rintro e w1 ⟨A1, c1, rfl, _, hb⟩
               have h1 := HX.out w1 hb
               obtain ⟨y0, y1, y2, y3, y4⟩ := box5 h1
               have z0 := frozen_of h1 0
               have z1 := frozen_of h1 1
               have z2 := frozen_of h1 2
               have z3 := frozen_of h1 3
               have z4 := frozen_of h1 4
               have HQ := Lib.hid (HZ.out w1 (.int .i64 0) (.int .i64 0) (.int .i64 0) (.int .i64 0) (.slice none 0 0) hb)
               clear h1 hb)
  refine bodyPost_ret (v := .tuple #[.agg #[.int .i64 0, .int .i64 0, .int .i64 0, .int .i64 0, .slice none 0 0], .int .i64 111]) (by simp [results, Try.results11, go_sem, y0, y1, y2, y3, y4]) rfl ?_
  exact ⟨rfl, HQ.out.1⟩
set_option maxRecDepth 100000 in
set_option maxHeartbeats 16000000 in
theorem refD_yes {v0 v1 v2 v3 v4 : Val} (hm : ∀ x ∈ [v0, v1, v2, v3, v4], x.R) (hR : Ltr.right ⟨v0.n, v1.n, v2.n, v3.n, nodesZ v4.n 16⟩ = true) (hbs : Ltr.bytes ⟨v0.n, v1.n, v2.n, v3.n, nodesZ v4.n 16⟩ = rowB [v0, v1, v2, v3, v4]) {A : Option Addr} {n cap : Nat} {w : World} (hn : (rowB [v0, v1, v2, v3, v4]).length = n) (hcap : n ≤ cap) (hl : n ≤ 100000) (hr : RdB w w.heap.size A (rowB [v0, v1, v2, v3, v4])) : Calls Try.prog 11 #[.slice A n cap] w (DcY w ⟨v0.n, v1.n, v2.n, v3.n, nodesZ v4.n 16⟩) := by
  obtain ⟨w0, hw0⟩ : ∃ w0, w0 = w.alloc (.cells #[.int .i64 0, .int .i64 0, .int .i64 0, .int .i64 0, .slice none 0 0] 25) := ⟨_, rfl⟩
  have hb0 : Below w.heap.size w w0 := by rw [hw0]; exact alloc_below w _
  have hs0 : w0.heap.size = w.heap.size + 1 := by rw [hw0]; simp
  obtain ⟨hX, hZ⟩ := dec_box hw0
  have HX := Lib.hid hX
  have HZ := Lib.hid hZ
  have HB0 := Lib.hid hb0
  have HS0 := Lib.hid hs0
  have HRB : Hid (∀ W, Below w0.heap.size w0 W → RdB W W.heap.size A (rowB [v0, v1, v2, v3, v4])) := Lib.hid fun W hb => by
    have hbw := hb0.trans (hb.mono hb0.size)
    exact (hr.below hbw (Nat.le_refl _)).more hbw.size
  have HNL := Lib.hid hn
  have HD := Lib.hid (refdec_yes hm (by simp) hn hcap hl ((hr.below hb0 (Nat.le_refl _)).more hb0.size) (w := w0))
  unfold RdY at HD
  simp only [List.length_cons, List.length_nil, Nat.zero_add, Nat.reduceAdd] at HD
  obtain ⟨a0, h0⟩ : ∃ a0, v0.n = a0 := ⟨_, rfl⟩
  obtain ⟨a1, h1⟩ : ∃ a1, v1.n = a1 := ⟨_, rfl⟩
  obtain ⟨a2, h2⟩ : ∃ a2, v2.n = a2 := ⟨_, rfl⟩
  obtain ⟨a3, h3⟩ : ∃ a3, v3.n = a3 := ⟨_, rfl⟩
  obtain ⟨a4, h4⟩ : ∃ a4, v4.n = a4 := ⟨_, rfl⟩
  have HCE : Hid (∀ W A1, RdV W W.heap.size A1 [v0, v1, v2, v3, v4] → ∃ bl o, A1 = some ⟨bl, o, none⟩ ∧ ∀ W2, Below W.heap.size W W2 → W2.cell? ⟨bl, o + 1, none⟩ = some (.int .i64 a0) ∧ W2.cell? ⟨bl, o + 3 + 1, none⟩ = some (.int .i64 a1) ∧ W2.cell? ⟨bl, o + 6 + 1, none⟩ = some (.int .i64 a2) ∧ W2.cell? ⟨bl, o + 9 + 1, none⟩ = some (.int .i64 a3) ∧ W2.cell? ⟨bl, o + 12 + 1, none⟩ = some (.int .i64 a4)) := Lib.hid fun W A1 hv => by
    obtain ⟨bl, o, hA, hbl, hc⟩ := hv (by simp)
    refine ⟨bl, o, hA, fun W2 hb => ?_⟩
    have hcell : ∀ j, W2.cell? ⟨bl, j, none⟩ = W.cell? ⟨bl, j, none⟩ := fun j => World.cell?_of_block (hb.block bl hbl)
    rw [hcell, hcell, hcell, hcell, hcell, ← h0, ← h1, ← h2, ← h3, ← h4]
    exact ⟨(hc 0 _ rfl).2.1, (hc 1 _ rfl).2.1, (hc 2 _ rfl).2.1, (hc 3 _ rfl).2.1, (hc 4 _ rfl).2.1⟩
  rw [h0, h1, h2, h3, h4] at hR
  rw [h0, h1, h2, h3, h4] at hbs
  rw [h0, h1, h2, h3, h4]
  obtain ⟨ns, hns⟩ : ∃ ns, ns = nodesZ a4 16 := ⟨_, rfl⟩
  rw [← hns] at hR hbs ⊢
  obtain ⟨m, hmm⟩ : ∃ m, ns.length = m := ⟨_, rfl⟩
  have hm16 : m ≤ 16 := by rw [← hmm, hns]; exact nodesZ_len _ _
  have hmi : (m : Int) ≤ 16 := by omega
  have HMM := Lib.hid hmm
  have HNS := Lib.hid hns
  have HE := Lib.hid (fun W A cap hrd => refEncL_yes ⟨a0, a1, a2, a3, ns⟩ hR A m cap hmm W hrd)
  obtain ⟨S, hS⟩ := ba_of (Ltr.bytes ⟨a0, a1, a2, a3, ns⟩)
  obtain ⟨T, hT⟩ := ba_of (rowB [v0, v1, v2, v3, v4])
  have HS := Lib.hid hS
  have HT := Lib.hid hT
  have hne : (S.toList != S.toList) = false := by simp
  have HT2 := Lib.hid (hS.trans hbs)
  clear hX hZ hr hn hm hcap hb0 hl hs0 h0 h1 h2 h3 h4 hR hns hmm hm16 hbs hS hT
  subst hw0
  go_enter Try.func11, Try.ntmps11
  go_wp2_with (go_at_call 21; refine HD.out.mono ?_; rintro e w1 ⟨A1, c1, rfl, hv, hb⟩
               obtain ⟨bl, o, rfl, hce⟩ := HCE.out w1 A1 hv
               have HCC := Lib.hid hce
               have HB1 := Lib.hid hb
               clear hv hb hce)
  obtain ⟨c0, c1', c2, c3, c4⟩ := HCC.out w1.drew (drew_below w1)
  obtain ⟨e0, e1, e2, e3, e4⟩ := HCC.out (w1.alloc (.cells #[.int .i64 0, .int .i64 0, .int .i64 0, .int .i64 0, .slice none 0 0] 25)).drew ((alloc_below w1 _).trans ((drew_below _).mono (alloc_below w1 _).size))
  have HF := HCC.out (w1.alloc (.cells #[.int .i64 a0, .int .i64 a1, .int .i64 a2, .int .i64 a3, .slice none 0 0] 25)).drew ((alloc_below w1 _).trans ((drew_below _).mono (alloc_below w1 _).size))
  obtain ⟨f0, f1, f2, f3, _⟩ := HF
  go_region_held3 (fun W => W.cell? ⟨bl, o + 1, none⟩ = some (.int .i64 a0) ∧ W.cell? ⟨bl, o + 3 + 1, none⟩ = some (.int .i64 a1) ∧ W.cell? ⟨bl, o + 6 + 1, none⟩ = some (.int .i64 a2) ∧ W.cell? ⟨bl, o + 9 + 1, none⟩ = some (.int .i64 a3))
    (first | exact ⟨c0, c1', c2, c3⟩ | exact ⟨e0, e1, e2, e3⟩ | exact ⟨f0, f1, f2, f3⟩ | go_keep)
    (fail)
  go_wp2_with fail
  clear c0 c1' c2 c3 c4 e0 e1 e2 e3 e4 f0 f1 f2 f3
  have HST : Hid (BxL w1 a0 a1 a2 a3 a4 (.int .i64 0) ((w1.alloc (.cells #[.int .i64 a0, .int .i64 a1, .int .i64 a2, .int .i64 a3, .slice none 0 0] 25)).drew)) := Lib.hid ⟨0, _, rfl, by omega, (alloc_below w1 _).trans ((drew_below _).mono (alloc_below w1 _).size), ((drew_below _).block _ (by simp)).trans (heap_alloc_new w1 _), OwnI.nil _ _⟩
  go_loopw [7] (fun v7 wr => BxL w1 a0 a1 a2 a3 a4 v7 wr) (fun v7 _ => 16 - (intOf v7).toNat)
  case atStart => exact HST.out
  case round =>
    obtain ⟨i, v, rfl, hi, hB⟩ := hrel
    obtain ⟨Av, cv, rfl, _⟩ := hB.own.2
    obtain ⟨_, _, _, _, c4⟩ := HCC.out wr hB.bel
    by_cases hlt : i < 16
    · obtain ⟨nn, hnn⟩ : ∃ nn, nn = (nodesZ a4 i).length := ⟨_, rfl⟩
      rw [← hnn] at hB
      have HB := Lib.hid hB
      obtain ⟨x0, x1, x2, x3, x4⟩ := box5 hB.box
      have z4 := frozen_of hB.box 4
      clear hB
      have hlti : (i : Int) < 16 := by omega
      have hi0 : 0 ≤ (i : Int) := by omega
      cases hbit : bitZ a4 i with
      | true =>
        have hbt : ((a4 / 2 ^ i).tmod 2 != 0) = true := hbit
        have HM1 : Hid ((nodesZ a4 i).length + [(i : Int)].length ≤ 1000000) := Lib.hid (by have := nodesZ_len a4 i; simp; omega)
        have HLT := Lib.hid (Array.getElem?_eq_some_iff.1 HB.out.box).1
        have HBZ : Hid (w1.heap.size + 1 ≤ (wr.alloc (.cells #[.int .i64 (i : Int)] 3)).heap.size) := Lib.hid (by have := HLT.out; simp; omega)
        have HN : Hid (∀ v6 w6, OwnI w6 (w1.heap.size + 1) v6 (nodesZ a4 i ++ [(i : Int)]) → Grew (wr.alloc (.cells #[.int .i64 (i : Int)] 3)) (.slice Av nn cv) w6 v6 → w6.heap[w1.heap.size]? = some (.cells #[.int .i64 a0, .int .i64 a1, .int .i64 a2, .int .i64 a3, .slice Av nn cv] 25 (0, 0)) ∧ ∀ v8, v8 = .int .i64 ((i + 1 : Nat) : Int) → BxL w1 a0 a1 a2 a3 a4 v8 (w6.setCell ⟨w1.heap.size, 4, none⟩ v6)) := Lib.hid fun v6 w6 ho hg => by
          have h1 := hg.toBelow HBZ.out HB.out.own.ge
          have hb6 : Below (w1.heap.size + 1) wr w6 := ((alloc_below wr _).mono (by have := HLT.out; omega)).trans h1
          exact ⟨(hb6.block _ (by omega)).trans HB.out.box, fun v8 h8 => ⟨i + 1, v6, h8, by omega, HB.out.set hb6 (by rw [nodesZ_yes hbit]; exact ho)⟩⟩
        obtain ⟨NL, hNL⟩ : ∃ NL, (nodesZ a4 i ++ [(i : Int)]).length = NL := ⟨_, rfl⟩
        have HNN := Lib.hid hNL
        clear hbit hi hnn hNL
        go_wp2_with (refine wpList_appI (xs := nodesZ a4 i) (ys := [(i : Int)]) (B := w1.heap.size + 1) rfl _ _ 23 rfl Try.underlying23 rfl (HB.out.own.below (alloc_below wr _)) rfl rfl (rd_oneI wr _) HM1.out HBZ.out ?_
                     intro v6 w6 ho6 hg6
                     obtain ⟨h1, h2⟩ := HN.out v6 w6 ho6 hg6
                     obtain ⟨A6, c6, hv6, _⟩ := ho6.2
                     rw [HNN.out] at hv6
                     subst hv6
                     have z4 := frozen_of h1 4
                     obtain ⟨_, _, _, _, y4⟩ := box5 h1
                     have HY := Lib.hid h2
                     clear ho6 hg6 h1 h2)
        go_roundw
        case rel => first | exact HY.out _ (by go_num) | ((repeat apply Exists.intro); exact ⟨HY.out _ (by go_num), rfl⟩)
        case measure => simp [intOf]; omega
      | false =>
        have hbt : ((a4 / 2 ^ i).tmod 2 != 0) = false := hbit
        have HN : Hid (∀ v8, v8 = .int .i64 ((i + 1 : Nat) : Int) → BxL w1 a0 a1 a2 a3 a4 v8 wr) := Lib.hid fun v8 h8 => ⟨i + 1, _, h8, by omega, by rw [nodesZ_no hbit]; have h := HB.out; rw [hnn] at h; exact h⟩
        clear hbit hi hnn
        go_wp2_with fail
        go_roundw
        case rel => first | exact HN.out _ (by go_num) | ((repeat apply Exists.intro); exact ⟨HN.out _ (by go_num), rfl⟩)
        case measure => simp [intOf]; omega
    · have hie : i = 16 := by omega
      rw [hie, ← HNS.out] at hB
      rw [HMM.out] at hB
      have HB := Lib.hid hB
      have hlti : ¬ (i : Int) < 16 := by omega
      obtain ⟨x0, x1, x2, x3, x4⟩ := box5 hB.box
      clear hlt hi hie hB c4
      go_wp2_with (go_at_call 9; (with_reducible refine (HE.out _ _ _ HB.out.own.rd).mono ?_); rintro e w4 ⟨vE, rfl, ho, hb⟩
                   have hw14 := HB.out.bel.trans (hb.mono HB.out.bel.size)
                   have h04 := HB1.out.trans (hw14.mono HB1.out.size)
                   have cvS := conv_ownS ho S HS.out
                   have cvT := conv_rd (n := n) (cap := cap) (HRB.out w4 h04) HNL.out S HT2.out
                   obtain ⟨x0, x1, x2, x3, x4⟩ := box5 ((hb.block _ (Array.getElem?_eq_some_iff.1 HB.out.box).1).trans HB.out.box)
                   have h1 := HX.out w4 h04
                   obtain ⟨y0, y1, y2, y3, y4⟩ := box5 h1
                   have z0 := frozen_of h1 0
                   have z1 := frozen_of h1 1
                   have z2 := frozen_of h1 2
                   have z3 := frozen_of h1 3
                   have z4 := frozen_of h1 4
                   have hz := HZ.out w4 (.int .i64 a0) (.int .i64 a1) (.int .i64 a2) (.int .i64 a3) (.slice Av m cv) h04
                   have hos := HB.out.own.below hb
                   have hge := hos.ge
                   have hs1 := HB1.out.size
                   have hs0 := HS0.out
                   have HQ := Lib.hid (dcY_mk (l := ⟨a0, a1, a2, a3, ns⟩) HMM.out ((hos.kept hz.2 (fun e => by have := hge _ e; omega)).low (by omega)) hz.1)
                   clear h1 h04 hb ho hw14 hz hos hge hs1 hs0)
      refine bodyPost_ret (v := .tuple #[.agg #[.int .i64 a0, .int .i64 a1, .int .i64 a2, .int .i64 a3, .slice Av m cv], .int .i64 0]) (by simp [results, Try.results11, go_sem, y0, y1, y2, y3, y4]) rfl ?_
      exact HQ.out
set_option maxRecDepth 100000 in
set_option maxHeartbeats 16000000 in
theorem refD_bad {v0 v1 v2 v3 v4 : Val} (hm : ∀ x ∈ [v0, v1, v2, v3, v4], x.R) (hR : Ltr.right ⟨v0.n, v1.n, v2.n, v3.n, nodesZ v4.n 16⟩ = false) {A : Option Addr} {n cap : Nat} {w : World} (hn : (rowB [v0, v1, v2, v3, v4]).length = n) (hcap : n ≤ cap) (hl : n ≤ 100000) (hr : RdB w w.heap.size A (rowB [v0, v1, v2, v3, v4])) : Calls Try.prog 11 #[.slice A n cap] w (DcN w) := by
  obtain ⟨w0, hw0⟩ : ∃ w0, w0 = w.alloc (.cells #[.int .i64 0, .int .i64 0, .int .i64 0, .int .i64 0, .slice none 0 0] 25) := ⟨_, rfl⟩
  have hb0 : Below w.heap.size w w0 := by rw [hw0]; exact alloc_below w _
  have hs0 : w0.heap.size = w.heap.size + 1 := by rw [hw0]; simp
  obtain ⟨hX, hZ⟩ := dec_box hw0
  have HX := Lib.hid hX
  have HZ := Lib.hid hZ
  have HB0 := Lib.hid hb0
  have HS0 := Lib.hid hs0
  have HRB : Hid (∀ W, Below w0.heap.size w0 W → RdB W W.heap.size A (rowB [v0, v1, v2, v3, v4])) := Lib.hid fun W hb => by
    have hbw := hb0.trans (hb.mono hb0.size)
    exact (hr.below hbw (Nat.le_refl _)).more hbw.size
  have HNL := Lib.hid hn
  have HD := Lib.hid (refdec_yes hm (by simp) hn hcap hl ((hr.below hb0 (Nat.le_refl _)).more hb0.size) (w := w0))
  unfold RdY at HD
  simp only [List.length_cons, List.length_nil, Nat.zero_add, Nat.reduceAdd] at HD
  obtain ⟨a0, h0⟩ : ∃ a0, v0.n = a0 := ⟨_, rfl⟩
  obtain ⟨a1, h1⟩ : ∃ a1, v1.n = a1 := ⟨_, rfl⟩
  obtain ⟨a2, h2⟩ : ∃ a2, v2.n = a2 := ⟨_, rfl⟩
  obtain ⟨a3, h3⟩ : ∃ a3, v3.n = a3 := ⟨_, rfl⟩
  obtain ⟨a4, h4⟩ : ∃ a4, v4.n = a4 := ⟨_, rfl⟩
  have HCE : Hid (∀ W A1, RdV W W.heap.size A1 [v0, v1, v2, v3, v4] → ∃ bl o, A1 = some ⟨bl, o, none⟩ ∧ ∀ W2, Below W.heap.size W W2 → W2.cell? ⟨bl, o + 1, none⟩ = some (.int .i64 a0) ∧ W2.cell? ⟨bl, o + 3 + 1, none⟩ = some (.int .i64 a1) ∧ W2.cell? ⟨bl, o + 6 + 1, none⟩ = some (.int .i64 a2) ∧ W2.cell? ⟨bl, o + 9 + 1, none⟩ = some (.int .i64 a3) ∧ W2.cell? ⟨bl, o + 12 + 1, none⟩ = some (.int .i64 a4)) := Lib.hid fun W A1 hv => by
    obtain ⟨bl, o, hA, hbl, hc⟩ := hv (by simp)
    refine ⟨bl, o, hA, fun W2 hb => ?_⟩
    have hcell : ∀ j, W2.cell? ⟨bl, j, none⟩ = W.cell? ⟨bl, j, none⟩ := fun j => World.cell?_of_block (hb.block bl hbl)
    rw [hcell, hcell, hcell, hcell, hcell, ← h0, ← h1, ← h2, ← h3, ← h4]
    exact ⟨(hc 0 _ rfl).2.1, (hc 1 _ rfl).2.1, (hc 2 _ rfl).2.1, (hc 3 _ rfl).2.1, (hc 4 _ rfl).2.1⟩
  rw [h0, h1, h2, h3, h4] at hR
  obtain ⟨ns, hns⟩ : ∃ ns, ns = nodesZ a4 16 := ⟨_, rfl⟩
  rw [← hns] at hR
  obtain ⟨m, hmm⟩ : ∃ m, ns.length = m := ⟨_, rfl⟩
  have hm16 : m ≤ 16 := by rw [← hmm, hns]; exact nodesZ_len _ _
  have hmi : (m : Int) ≤ 16 := by omega
  have HMM := Lib.hid hmm
  have HNS := Lib.hid hns
  have HE := Lib.hid (fun W A cap hrd => refEncL_no ⟨a0, a1, a2, a3, ns⟩ hR A m cap hmm (by omega) W hrd)
  clear hX hZ hr hn hm hcap hb0 hl hs0 h0 h1 h2 h3 h4 hR hns hmm hm16
  subst hw0
  go_enter Try.func11, Try.ntmps11
  go_wp2_with (go_at_call 21; refine HD.out.mono ?_; rintro e w1 ⟨A1, c1, rfl, hv, hb⟩
               obtain ⟨bl, o, rfl, hce⟩ := HCE.out w1 A1 hv
               have HCC := Lib.hid hce
               have HB1 := Lib.hid hb
               clear hv hb hce)
  obtain ⟨c0, c1', c2, c3, c4⟩ := HCC.out w1.drew (drew_below w1)
  obtain ⟨e0, e1, e2, e3, e4⟩ := HCC.out (w1.alloc (.cells #[.int .i64 0, .int .i64 0, .int .i64 0, .int .i64 0, .slice none 0 0] 25)).drew ((alloc_below w1 _).trans ((drew_below _).mono (alloc_below w1 _).size))
  have HF := HCC.out (w1.alloc (.cells #[.int .i64 a0, .int .i64 a1, .int .i64 a2, .int .i64 a3, .slice none 0 0] 25)).drew ((alloc_below w1 _).trans ((drew_below _).mono (alloc_below w1 _).size))
  obtain ⟨f0, f1, f2, f3, _⟩ := HF
  go_region_held3 (fun W => W.cell? ⟨bl, o + 1, none⟩ = some (.int .i64 a0) ∧ W.cell? ⟨bl, o + 3 + 1, none⟩ = some (.int .i64 a1) ∧ W.cell? ⟨bl, o + 6 + 1, none⟩ = some (.int .i64 a2) ∧ W.cell? ⟨bl, o + 9 + 1, none⟩ = some (.int .i64 a3))
    (first | exact ⟨c0, c1', c2, c3⟩ | exact ⟨e0, e1, e2, e3⟩ | exact ⟨f0, f1, f2, f3⟩ | go_keep)
    (fail)
  go_wp2_with fail
  clear c0 c1' c2 c3 c4 e0 e1 e2 e3 e4 f0 f1 f2 f3
  have HST : Hid (BxL w1 a0 a1 a2 a3 a4 (.int .i64 0) ((w1.alloc (.cells #[.int .i64 a0, .int .i64 a1, .int .i64 a2, .int .i64 a3, .slice none 0 0] 25)).drew)) := Lib.hid ⟨0, _, rfl, by omega, (alloc_below w1 _).trans ((drew_below _).mono (alloc_below w1 _).size), ((drew_below _).block _ (by simp)).trans (heap_alloc_new w1 _), OwnI.nil _ _⟩
  go_loopw [7] (fun v7 wr => BxL w1 a0 a1 a2 a3 a4 v7 wr) (fun v7 _ => 16 - (intOf v7).toNat)
  case atStart => exact HST.out
  case round =>
    obtain ⟨i, v, rfl, hi, hB⟩ := hrel
    obtain ⟨Av, cv, rfl, _⟩ := hB.own.2
    obtain ⟨_, _, _, _, c4⟩ := HCC.out wr hB.bel
    by_cases hlt : i < 16
    · obtain ⟨nn, hnn⟩ : ∃ nn, nn = (nodesZ a4 i).length := ⟨_, rfl⟩
      rw [← hnn] at hB
      have HB := Lib.hid hB
      obtain ⟨x0, x1, x2, x3, x4⟩ := box5 hB.box
      have z4 := frozen_of hB.box 4
      clear hB
      have hlti : (i : Int) < 16 := by omega
      have hi0 : 0 ≤ (i : Int) := by omega
      cases hbit : bitZ a4 i with
      | true =>
        have hbt : ((a4 / 2 ^ i).tmod 2 != 0) = true := hbit
        have HM1 : Hid ((nodesZ a4 i).length + [(i : Int)].length ≤ 1000000) := Lib.hid (by have := nodesZ_len a4 i; simp; omega)
        have HLT := Lib.hid (Array.getElem?_eq_some_iff.1 HB.out.box).1
        have HBZ : Hid (w1.heap.size + 1 ≤ (wr.alloc (.cells #[.int .i64 (i : Int)] 3)).heap.size) := Lib.hid (by have := HLT.out; simp; omega)
        have HN : Hid (∀ v6 w6, OwnI w6 (w1.heap.size + 1) v6 (nodesZ a4 i ++ [(i : Int)]) → Grew (wr.alloc (.cells #[.int .i64 (i : Int)] 3)) (.slice Av nn cv) w6 v6 → w6.heap[w1.heap.size]? = some (.cells #[.int .i64 a0, .int .i64 a1, .int .i64 a2, .int .i64 a3, .slice Av nn cv] 25 (0, 0)) ∧ ∀ v8, v8 = .int .i64 ((i + 1 : Nat) : Int) → BxL w1 a0 a1 a2 a3 a4 v8 (w6.setCell ⟨w1.heap.size, 4, none⟩ v6)) := Lib.hid fun v6 w6 ho hg => by
          have h1 := hg.toBelow HBZ.out HB.out.own.ge
          have hb6 : Below (w1.heap.size + 1) wr w6 := ((alloc_below wr _).mono (by have := HLT.out; omega)).trans h1
          exact ⟨(hb6.block _ (by omega)).trans HB.out.box, fun v8 h8 => ⟨i + 1, v6, h8, by omega, HB.out.set hb6 (by rw [nodesZ_yes hbit]; exact ho)⟩⟩
        obtain ⟨NL, hNL⟩ : ∃ NL, (nodesZ a4 i ++ [(i : Int)]).length = NL := ⟨_, rfl⟩
        have HNN := Lib.hid hNL
        clear hbit hi hnn hNL
        go_wp2_with (refine wpList_appI (xs := nodesZ a4 i) (ys := [(i : Int)]) (B := w1.heap.size + 1) rfl _ _ 23 rfl Try.underlying23 rfl (HB.out.own.below (alloc_below wr _)) rfl rfl (rd_oneI wr _) HM1.out HBZ.out ?_
                     intro v6 w6 ho6 hg6
                     obtain ⟨h1, h2⟩ := HN.out v6 w6 ho6 hg6
                     obtain ⟨A6, c6, hv6, _⟩ := ho6.2
                     rw [HNN.out] at hv6
                     subst hv6
                     have z4 := frozen_of h1 4
                     obtain ⟨_, _, _, _, y4⟩ := box5 h1
                     have HY := Lib.hid h2
                     clear ho6 hg6 h1 h2)
        go_roundw
        case rel => first | exact HY.out _ (by go_num) | ((repeat apply Exists.intro); exact ⟨HY.out _ (by go_num), rfl⟩)
        case measure => simp [intOf]; omega
      | false =>
        have hbt : ((a4 / 2 ^ i).tmod 2 != 0) = false := hbit
        have HN : Hid (∀ v8, v8 = .int .i64 ((i + 1 : Nat) : Int) → BxL w1 a0 a1 a2 a3 a4 v8 wr) := Lib.hid fun v8 h8 => ⟨i + 1, _, h8, by omega, by rw [nodesZ_no hbit]; have h := HB.out; rw [hnn] at h; exact h⟩
        clear hbit hi hnn
        go_wp2_with fail
        go_roundw
        case rel => first | exact HN.out _ (by go_num) | ((repeat apply Exists.intro); exact ⟨HN.out _ (by go_num), rfl⟩)
        case measure => simp [intOf]; omega
    · have hie : i = 16 := by omega
      rw [hie, ← HNS.out] at hB
      rw [HMM.out] at hB
      have HB := Lib.hid hB
      have hlti : ¬ (i : Int) < 16 := by omega
      obtain ⟨x0, x1, x2, x3, x4⟩ := box5 hB.box
      clear hlt hi hie hB c4
      go_wp2_with (go_at_call 9; (with_reducible refine (HE.out _ _ _ HB.out.own.rd).mono ?_); rintro e w4 ⟨rfl, hb⟩
                   have h04 := HB1.out.trans ((HB.out.bel.trans (hb.mono HB.out.bel.size)).mono HB1.out.size)
                   have h1 := HX.out w4 h04
                   obtain ⟨y0, y1, y2, y3, y4⟩ := box5 h1
                   have z0 := frozen_of h1 0
                   have z1 := frozen_of h1 1
                   have z2 := frozen_of h1 2
                   have z3 := frozen_of h1 3
                   have z4 := frozen_of h1 4
                   have HQ := Lib.hid (HZ.out w4 (.int .i64 0) (.int .i64 0) (.int .i64 0) (.int .i64 0) (.slice none 0 0) h04)
                   clear h1 h04 hb)
      refine bodyPost_ret (v := .tuple #[.agg #[.int .i64 0, .int .i64 0, .int .i64 0, .int .i64 0, .slice none 0 0], .int .i64 111]) (by simp [results, Try.results11, go_sem, y0, y1, y2, y3, y4]) rfl ?_
      exact ⟨rfl, HQ.out.1⟩
set_option maxRecDepth 100000 in
set_option maxHeartbeats 16000000 in
theorem refD_other {v0 v1 v2 v3 v4 : Val} (hm : ∀ x ∈ [v0, v1, v2, v3, v4], x.R) (hR : Ltr.right ⟨v0.n, v1.n, v2.n, v3.n, nodesZ v4.n 16⟩ = true) (hbs : Ltr.bytes ⟨v0.n, v1.n, v2.n, v3.n, nodesZ v4.n 16⟩ ≠ rowB [v0, v1, v2, v3, v4]) {A : Option Addr} {n cap : Nat} {w : World} (hn : (rowB [v0, v1, v2, v3, v4]).length = n) (hcap : n ≤ cap) (hl : n ≤ 100000) (hr : RdB w w.heap.size A (rowB [v0, v1, v2, v3, v4])) : Calls Try.prog 11 #[.slice A n cap] w (DcN w) := by
  obtain ⟨w0, hw0⟩ : ∃ w0, w0 = w.alloc (.cells #[.int .i64 0, .int .i64 0, .int .i64 0, .int .i64 0, .slice none 0 0] 25) := ⟨_, rfl⟩
  have hb0 : Below w.heap.size w w0 := by rw [hw0]; exact alloc_below w _
  have hs0 : w0.heap.size = w.heap.size + 1 := by rw [hw0]; simp
  obtain ⟨hX, hZ⟩ := dec_box hw0
  have HX := Lib.hid hX
  have HZ := Lib.hid hZ
  have HB0 := Lib.hid hb0
  have HS0 := Lib.hid hs0
  have HRB : Hid (∀ W, Below w0.heap.size w0 W → RdB W W.heap.size A (rowB [v0, v1, v2, v3, v4])) := Lib.hid fun W hb => by
    have hbw := hb0.trans (hb.mono hb0.size)
    exact (hr.below hbw (Nat.le_refl _)).more hbw.size
  have HNL := Lib.hid hn
  have HD := Lib.hid (refdec_yes hm (by simp) hn hcap hl ((hr.below hb0 (Nat.le_refl _)).more hb0.size) (w := w0))
  unfold RdY at HD
  simp only [List.length_cons, List.length_nil, Nat.zero_add, Nat.reduceAdd] at HD
  obtain ⟨a0, h0⟩ : ∃ a0, v0.n = a0 := ⟨_, rfl⟩
  obtain ⟨a1, h1⟩ : ∃ a1, v1.n = a1 := ⟨_, rfl⟩
  obtain ⟨a2, h2⟩ : ∃ a2, v2.n = a2 := ⟨_, rfl⟩
  obtain ⟨a3, h3⟩ : ∃ a3, v3.n = a3 := ⟨_, rfl⟩
  obtain ⟨a4, h4⟩ : ∃ a4, v4.n = a4 := ⟨_, rfl⟩
  have HCE : Hid (∀ W A1, RdV W W.heap.size A1 [v0, v1, v2, v3, v4] → ∃ bl o, A1 = some ⟨bl, o, none⟩ ∧ ∀ W2, Below W.heap.size W W2 → W2.cell? ⟨bl, o + 1, none⟩ = some (.int .i64 a0) ∧ W2.cell? ⟨bl, o + 3 + 1, none⟩ = some (.int .i64 a1) ∧ W2.cell? ⟨bl, o + 6 + 1, none⟩ = some (.int .i64 a2) ∧ W2.cell? ⟨bl, o + 9 + 1, none⟩ = some (.int .i64 a3) ∧ W2.cell? ⟨bl, o + 12 + 1, none⟩ = some (.int .i64 a4)) := Lib.hid fun W A1 hv => by
    obtain ⟨bl, o, hA, hbl, hc⟩ := hv (by simp)
    refine ⟨bl, o, hA, fun W2 hb => ?_⟩
    have hcell : ∀ j, W2.cell? ⟨bl, j, none⟩ = W.cell? ⟨bl, j, none⟩ := fun j => World.cell?_of_block (hb.block bl hbl)
    rw [hcell, hcell, hcell, hcell, hcell, ← h0, ← h1, ← h2, ← h3, ← h4]
    exact ⟨(hc 0 _ rfl).2.1, (hc 1 _ rfl).2.1, (hc 2 _ rfl).2.1, (hc 3 _ rfl).2.1, (hc 4 _ rfl).2.1⟩
  rw [h0, h1, h2, h3, h4] at hR
  rw [h0, h1, h2, h3, h4] at hbs
  obtain ⟨ns, hns⟩ : ∃ ns, ns = nodesZ a4 16 := ⟨_, rfl⟩
  rw [← hns] at hR hbs
  obtain ⟨m, hmm⟩ : ∃ m, ns.length = m := ⟨_, rfl⟩
  have hm16 : m ≤ 16 := by rw [← hmm, hns]; exact nodesZ_len _ _
  have hmi : (m : Int) ≤ 16 := by omega
  have HMM := Lib.hid hmm
  have HNS := Lib.hid hns
  have HE := Lib.hid (fun W A cap hrd => refEncL_yes ⟨a0, a1, a2, a3, ns⟩ hR A m cap hmm W hrd)
  obtain ⟨S, hS⟩ := ba_of (Ltr.bytes ⟨a0, a1, a2, a3, ns⟩)
  obtain ⟨T, hT⟩ := ba_of (rowB [v0, v1, v2, v3, v4])
  have HS := Lib.hid hS
  have HT := Lib.hid hT
  have hne : (S.toList == T.toList) = false := by
    have e : ¬ S.toList = T.toList := by rw [ByteArray.toList_eq, ByteArray.toList_eq, hS, hT]; exact hbs
    simpa using e
  clear hX hZ hr hn hm hcap hb0 hl hs0 h0 h1 h2 h3 h4 hR hns hmm hm16 hbs hS hT
  subst hw0
  go_enter Try.func11, Try.ntmps11
  go_wp2_with (go_at_call 21; refine HD.out.mono ?_; rintro e w1 ⟨A1, c1, rfl, hv, hb⟩
               obtain ⟨bl, o, rfl, hce⟩ := HCE.out w1 A1 hv
               have HCC := Lib.hid hce
               have HB1 := Lib.hid hb
               clear hv hb hce)
  obtain ⟨c0, c1', c2, c3, c4⟩ := HCC.out w1.drew (drew_below w1)
  obtain ⟨e0, e1, e2, e3, e4⟩ := HCC.out (w1.alloc (.cells #[.int .i64 0, .int .i64 0, .int .i64 0, .int .i64 0, .slice none 0 0] 25)).drew ((alloc_below w1 _).trans ((drew_below _).mono (alloc_below w1 _).size))
  have HF := HCC.out (w1.alloc (.cells #[.int .i64 a0, .int .i64 a1, .int .i64 a2, .int .i64 a3, .slice none 0 0] 25)).drew ((alloc_below w1 _).trans ((drew_below _).mono (alloc_below w1 _).size))
  obtain ⟨f0, f1, f2, f3, _⟩ := HF
  go_region_held3 (fun W => W.cell? ⟨bl, o + 1, none⟩ = some (.int .i64 a0) ∧ W.cell? ⟨bl, o + 3 + 1, none⟩ = some (.int .i64 a1) ∧ W.cell? ⟨bl, o + 6 + 1, none⟩ = some (.int .i64 a2) ∧ W.cell? ⟨bl, o + 9 + 1, none⟩ = some (.int .i64 a3))
    (first | exact ⟨c0, c1', c2, c3⟩ | exact ⟨e0, e1, e2, e3⟩ | exact ⟨f0, f1, f2, f3⟩ | go_keep)
    (fail)
  go_wp2_with fail
  clear c0 c1' c2 c3 c4 e0 e1 e2 e3 e4 f0 f1 f2 f3
  have HST : Hid (BxL w1 a0 a1 a2 a3 a4 (.int .i64 0) ((w1.alloc (.cells #[.int .i64 a0, .int .i64 a1, .int .i64 a2, .int .i64 a3, .slice none 0 0] 25)).drew)) := Lib.hid ⟨0, _, rfl, by omega, (alloc_below w1 _).trans ((drew_below _).mono (alloc_below w1 _).size), ((drew_below _).block _ (by simp)).trans (heap_alloc_new w1 _), OwnI.nil _ _⟩
  go_loopw [7] (fun v7 wr => BxL w1 a0 a1 a2 a3 a4 v7 wr) (fun v7 _ => 16 - (intOf v7).toNat)
  case atStart => exact HST.out
  case round =>
    obtain ⟨i, v, rfl, hi, hB⟩ := hrel
    obtain ⟨Av, cv, rfl, _⟩ := hB.own.2
    obtain ⟨_, _, _, _, c4⟩ := HCC.out wr hB.bel
    by_cases hlt : i < 16
    · obtain ⟨nn, hnn⟩ : ∃ nn, nn = (nodesZ a4 i).length := ⟨_, rfl⟩
      rw [← hnn] at hB
      have HB := Lib.hid hB
      obtain ⟨x0, x1, x2, x3, x4⟩ := box5 hB.box
      have z4 := frozen_of hB.box 4
      clear hB
      have hlti : (i : Int) < 16 := by omega
      have hi0 : 0 ≤ (i : Int) := by omega
      cases hbit : bitZ a4 i with
      | true =>
        have hbt : ((a4 / 2 ^ i).tmod 2 != 0) = true := hbit
        have HM1 : Hid ((nodesZ a4 i).length + [(i : Int)].length ≤ 1000000) := Lib.hid (by have := nodesZ_len a4 i; simp; omega)
        have HLT := Lib.hid (Array.getElem?_eq_some_iff.1 HB.out.box).1
        have HBZ : Hid (w1.heap.size + 1 ≤ (wr.alloc (.cells #[.int .i64 (i : Int)] 3)).heap.size) := Lib.hid (by have := HLT.out; simp; omega)
        have HN : Hid (∀ v6 w6, OwnI w6 (w1.heap.size + 1) v6 (nodesZ a4 i ++ [(i : Int)]) → Grew (wr.alloc (.cells #[.int .i64 (i : Int)] 3)) (.slice Av nn cv) w6 v6 → w6.heap[w1.heap.size]? = some (.cells #[.int .i64 a0, .int .i64 a1, .int .i64 a2, .int .i64 a3, .slice Av nn cv] 25 (0, 0)) ∧ ∀ v8, v8 = .int .i64 ((i + 1 : Nat) : Int) → BxL w1 a0 a1 a2 a3 a4 v8 (w6.setCell ⟨w1.heap.size, 4, none⟩ v6)) := Lib.hid fun v6 w6 ho hg => by
          have h1 := hg.toBelow HBZ.out HB.out.own.ge
          have hb6 : Below (w1.heap.size + 1) wr w6 := ((alloc_below wr _).mono (by have := HLT.out; omega)).trans h1
          exact ⟨(hb6.block _ (by omega)).trans HB.out.box, fun v8 h8 => ⟨i + 1, v6, h8, by omega, HB.out.set hb6 (by rw [nodesZ_yes hbit]; exact ho)⟩⟩
        obtain ⟨NL, hNL⟩ : ∃ NL, (nodesZ a4 i ++ [(i : Int)]).length = NL := ⟨_, rfl⟩
        have HNN := Lib.hid hNL
        clear hbit hi hnn hNL
        go_wp2_with (refine wpList_appI (xs := nodesZ a4 i) (ys := [(i : Int)]) (B := w1.heap.size + 1) rfl _ _ 23 rfl Try.underlying23 rfl (HB.out.own.below (alloc_below wr _)) rfl rfl (rd_oneI wr _) HM1.out HBZ.out ?_
                     intro v6 w6 ho6 hg6
                     obtain ⟨h1, h2⟩ := HN.out v6 w6 ho6 hg6
                     obtain ⟨A6, c6, hv6, _⟩ := ho6.2
                     rw [HNN.out] at hv6
                     subst hv6
                     have z4 := frozen_of h1 4
                     obtain ⟨_, _, _, _, y4⟩ := box5 h1
                     have HY := Lib.hid h2
                     clear ho6 hg6 h1 h2)
        go_roundw
        case rel => first | exact HY.out _ (by go_num) | ((repeat apply Exists.intro); exact ⟨HY.out _ (by go_num), rfl⟩)
        case measure => simp [intOf]; omega
      | false =>
        have hbt : ((a4 / 2 ^ i).tmod 2 != 0) = false := hbit
        have HN : Hid (∀ v8, v8 = .int .i64 ((i + 1 : Nat) : Int) → BxL w1 a0 a1 a2 a3 a4 v8 wr) := Lib.hid fun v8 h8 => ⟨i + 1, _, h8, by omega, by rw [nodesZ_no hbit]; have h := HB.out; rw [hnn] at h; exact h⟩
        clear hbit hi hnn
        go_wp2_with fail
        go_roundw
        case rel => first | exact HN.out _ (by go_num) | ((repeat apply Exists.intro); exact ⟨HN.out _ (by go_num), rfl⟩)
        case measure => simp [intOf]; omega
    · have hie : i = 16 := by omega
      rw [hie, ← HNS.out] at hB
      rw [HMM.out] at hB
      have HB := Lib.hid hB
      have hlti : ¬ (i : Int) < 16 := by omega
      obtain ⟨x0, x1, x2, x3, x4⟩ := box5 hB.box
      clear hlt hi hie hB c4
      go_wp2_with (go_at_call 9; (with_reducible refine (HE.out _ _ _ HB.out.own.rd).mono ?_); rintro e w4 ⟨vE, rfl, ho, hb⟩
                   have hw14 := HB.out.bel.trans (hb.mono HB.out.bel.size)
                   have h04 := HB1.out.trans (hw14.mono HB1.out.size)
                   have cvS := conv_ownS ho S HS.out
                   have cvT := conv_rd (n := n) (cap := cap) (HRB.out w4 h04) HNL.out T HT.out
                   obtain ⟨x0, x1, x2, x3, x4⟩ := box5 ((hb.block _ (Array.getElem?_eq_some_iff.1 HB.out.box).1).trans HB.out.box)
                   have h1 := HX.out w4 h04
                   obtain ⟨y0, y1, y2, y3, y4⟩ := box5 h1
                   have z0 := frozen_of h1 0
                   have z1 := frozen_of h1 1
                   have z2 := frozen_of h1 2
                   have z3 := frozen_of h1 3
                   have z4 := frozen_of h1 4
                   have hz := HZ.out w4 (.int .i64 0) (.int .i64 0) (.int .i64 0) (.int .i64 0) (.slice none 0 0) h04
                   have hos := HB.out.own.below hb
                   have hge := hos.ge
                   have hs1 := HB1.out.size
                   have hs0 := HS0.out
                   have HQ := Lib.hid hz
                   clear h1 h04 hb ho hw14 hz hos hge hs1 hs0)
      refine bodyPost_ret (v := .tuple #[.agg #[.int .i64 0, .int .i64 0, .int .i64 0, .int .i64 0, .slice none 0 0], .int .i64 111]) (by simp [results, Try.results11, go_sem, y0, y1, y2, y3, y4]) rfl ?_
      exact ⟨rfl, HQ.out.1⟩
theorem refDecL_of {l : Ltr} (h : l.right = true) {A : Option Addr} {n cap : Nat} {w : World} (hn : l.bytes.length = n) (hcap : n ≤ cap) (hl : n ≤ 100000) (hr : RdB w w.heap.size A l.bytes) : Calls Try.prog 11 #[.slice A n cap] w (DcY w l) := by
  have e := ofVals_row h
  have e2 : (⟨l.k, l.f, l.t, l.x, nodesZ ((orB 0 l.ns : Nat) : Int) 16⟩ : Ltr) = l := e
  have h2 := refD_yes (v0 := intV l.k) (v1 := intV l.f) (v2 := intV l.t) (v3 := intV l.x) (v4 := intV ((orB 0 l.ns : Nat) : Int)) (l.row_R h) (by show Ltr.right ⟨l.k, l.f, l.t, l.x, nodesZ ((orB 0 l.ns : Nat) : Int) 16⟩ = true; rw [e2]; exact h) (by show Ltr.bytes ⟨l.k, l.f, l.t, l.x, nodesZ ((orB 0 l.ns : Nat) : Int) 16⟩ = _; rw [e2]; rfl) hn hcap hl hr
  have h3 : Calls Try.prog 11 #[.slice A n cap] w (DcY w ⟨l.k, l.f, l.t, l.x, nodesZ ((orB 0 l.ns : Nat) : Int) 16⟩) := h2
  rw [e2] at h3
  exact h3
theorem refDecL_not {bs : List UInt8} (h : ∀ l : Ltr, l.right = true → bs ≠ l.bytes) {A : Option Addr} {n cap : Nat} {w : World} (hn : bs.length = n) (hcap : n ≤ cap) (hl : n ≤ 100000) (hr : RdB w w.heap.size A bs) : Calls Try.prog 11 #[.slice A n cap] w (DcN w) := by
  by_cases h1 : ∃ m : List Val, (∀ x ∈ m, x.R) ∧ m.length ≤ 16 ∧ bs = rowB m
  · obtain ⟨m, hm, h16, rfl⟩ := h1
    by_cases h5 : m.length = 5
    · match m, h5 with
      | [v0, v1, v2, v3, v4], _ =>
        cases hR : Ltr.right ⟨v0.n, v1.n, v2.n, v3.n, nodesZ v4.n 16⟩ with
        | false => exact refD_bad hm hR hn hcap hl hr
        | true => exact refD_other hm hR (fun e => h _ hR e.symm) hn hcap hl hr
    · exact refD_len hm h16 h5 hn hcap hl hr
  · exact refD_none (fun m hm h16 e => h1 ⟨m, hm, h16, e⟩) hn hcap hl hr


/-- S may be said stronger from here on -/
theorem wpAnyH_mono {P : Program} {md : Region.Mode} {ops : Array Oper} {Q : Exit → Act → World → Prop} {S S' : World → Prop} (hSS : ∀ w, S' w → S w) : ∀ {fuel : Nat} {listed : Array Bool} {a : Act} {w : World}, wpAnyH P md ops Q S' fuel listed a w → wpAnyH P md ops Q S fuel listed a w
  | 0, _, _, _, h => h
  | _ + 1, _, _, _, h => ⟨h.1, fun i hi => wpOp_mono (fun _ w' h' => ⟨hSS w' h'.1, wpAnyH_mono hSS h'.2⟩) (h.2 i hi)⟩
set_option maxRecDepth 100000 in
set_option maxHeartbeats 16000000 in
theorem le_n_x (l : Ltr) (b : List UInt8) (A C : Option Addr) (cap1 cap2 n nb : Nat) (w : World) (hn : l.ns.length = n) (hnb : b.length = nb) (h1 : n ≤ 300) (h2 : nb ≤ 300) (hcb : nb ≤ cap2) (hr : RdI w w.heap.size A l.ns) (hrb : RdB w w.heap.size C b) (hno : ∀ z : Ltr, z.right = true → b ≠ z.bytes) (hR : l.right = false) :
    Calls Try.prog 3 #[.agg #[.int .i64 l.k, .int .i64 l.f, .int .i64 l.t, .int .i64 l.x, .slice A n cap1], .slice C nb cap2] w (Ans (.bool true) w) := by
  have HX : Hid (LBx (w.alloc (lv l A n cap1)) w.heap.size l A n cap1) := Lib.hid ⟨heap_alloc_new w _, (hr.below (alloc_below w _) (Nat.le_refl _)).more (alloc_below w _).size⟩
  have HB : Hid (Below w.heap.size w (w.alloc (lv l A n cap1))) := Lib.hid (alloc_below w _)
  have HRB : Hid (∀ W, Below w.heap.size w W → RdB W W.heap.size C b) := Lib.hid fun W hb => (hrb.below hb (Nat.le_refl _)).more hb.size
  have HL := Lib.hid aliveZ_any
  have h1i : ¬ (300 : Int) < (n : Int) := by omega
  have h2i : ¬ (300 : Int) < (nb : Int) := by omega
  have HDB := Lib.hid (fun W hW => decL_not hno hnb hcb (HRB.out W hW) (A := C))
  have HRD := Lib.hid (fun W (hW : Below w.heap.size w W) => refDecL_not hno hnb hcb (by omega) (HRB.out W hW) (A := C))
  have HSM := Lib.hid (fun W => refSameL_any ⟨0, 0, 0, 0, []⟩ ⟨0, 0, 0, 0, []⟩ none none 0 0 0 0 rfl rfl (by omega) (by omega) W (RdI.nil _ _ _) (RdI.nil _ _ _))
  rw [sameL_self] at HSM
  have HEL := Lib.hid (fun W A cap hrd => encL_no hR (encodeL_any l A n cap hn (by omega) W hrd))
  have HRE := Lib.hid (fun W A cap hrd => refEncL_no l hR A n cap hn (by omega) W hrd)
  obtain ⟨S, hS⟩ := ba_of []
  have HSS := Lib.hid hS
  have HRL := Lib.hid (fun W A cap hrd => rightL_any l.k l.f l.t l.x l.ns A n cap hn (by omega) W hrd)
  rw [show Ltr.right ⟨l.k, l.f, l.t, l.x, l.ns⟩ = false from hR] at HRL
  have HRR := Lib.hid (fun W A cap hrd => refRgt_any l.k l.f l.t l.x l.ns A n cap hn (by omega) W hrd)
  rw [show Ltr.right ⟨l.k, l.f, l.t, l.x, l.ns⟩ = false from hR] at HRR
  have hse : (S.toList == S.toList) = true := by simp
  clear hr hrb hcb h1 h2 hn hnb hR hS hno
  obtain ⟨x0, x1, x2, x3, x4⟩ := HX.out.cells
  obtain ⟨k, f, t, x, ns⟩ := l
  unfold lv at HX HB x0 x1 x2 x3 x4
  simp only at *
  go_enter Try.func3, Try.ntmps3
  go_wp2_with (first
    | (go_at_call 8; (with_reducible refine (HEL.out _ _ _ HX.out.rd).mono ?_); rintro e w1 ⟨rfl, hb⟩
       have HB := Lib.hid (HB.out.trans (hb.mono HB.out.size))
       have HX := Lib.hid (HX.out.next hb)
       clear x0 x1 x2 x3 x4
       obtain ⟨x0, x1, x2, x3, x4⟩ := HX.out.cells
       clear hb)
    | (go_at_call 9; (with_reducible refine (HRE.out _ _ _ HX.out.rd).mono ?_); rintro e w2 ⟨rfl, hb⟩
       have HB := Lib.hid (HB.out.trans (hb.mono HB.out.size))
       have HX := Lib.hid (HX.out.next hb)
       clear x0 x1 x2 x3 x4
       obtain ⟨x0, x1, x2, x3, x4⟩ := HX.out.cells
       clear hb)
    | (go_at_call 10; (with_reducible refine (HDB.out _ HB.out).mono ?_); rintro e w3 ⟨rfl, hb0⟩
       unfold zeroL
       have hb := hb0.trans ((alloc_below w3 (.cells #[.int .i64 0, .int .i64 0, .int .i64 0, .int .i64 0, .slice none 0 0] 25)).mono hb0.size)
       have HZ : Hid (LBx (w3.alloc (.cells #[.int .i64 0, .int .i64 0, .int .i64 0, .int .i64 0, .slice none 0 0] 25)) w3.heap.size ⟨0, 0, 0, 0, []⟩ none 0 0) := Lib.hid ⟨heap_alloc_new w3 _, RdI.nil _ _ _⟩
       have HB := Lib.hid (HB.out.trans (hb.mono HB.out.size))
       have HX := Lib.hid (HX.out.next hb)
       clear x0 x1 x2 x3 x4
       obtain ⟨x0, x1, x2, x3, x4⟩ := HX.out.cells
       obtain ⟨z0, z1, z2, z3, z4⟩ := HZ.out.cells
       clear hb hb0)
    | (go_at_call 11; (with_reducible refine (HRD.out _ HB.out).mono ?_); rintro e w4 ⟨rfl, hb0⟩
       unfold zeroL
       have hb := hb0.trans ((alloc_below w4 (.cells #[.int .i64 0, .int .i64 0, .int .i64 0, .int .i64 0, .slice none 0 0] 25)).mono hb0.size)
       have HW : Hid (LBx (w4.alloc (.cells #[.int .i64 0, .int .i64 0, .int .i64 0, .int .i64 0, .slice none 0 0] 25)) w4.heap.size ⟨0, 0, 0, 0, []⟩ none 0 0) := Lib.hid ⟨heap_alloc_new w4 _, RdI.nil _ _ _⟩
       have HZ := Lib.hid (HZ.out.next hb)
       clear z0 z1 z2 z3 z4
       obtain ⟨z0, z1, z2, z3, z4⟩ := HZ.out.cells
       have HB := Lib.hid (HB.out.trans (hb.mono HB.out.size))
       have HX := Lib.hid (HX.out.next hb)
       clear x0 x1 x2 x3 x4
       obtain ⟨x0, x1, x2, x3, x4⟩ := HX.out.cells
       obtain ⟨u0, u1, u2, u3, u4⟩ := HW.out.cells
       clear hb hb0)
    | (go_at_call 12; (with_reducible refine (HSM.out _).mono ?_); rintro e w5 ⟨rfl, hb⟩
       have HB := Lib.hid (HB.out.trans (hb.mono HB.out.size))
       have HX := Lib.hid (HX.out.next hb)
       clear x0 x1 x2 x3 x4
       obtain ⟨x0, x1, x2, x3, x4⟩ := HX.out.cells
       clear hb)
    | fail)
  have HB := Lib.hid (HB.out.trans ((drew_below _).mono HB.out.size))
  have HX := Lib.hid (HX.out.next (drew_below _))
  refine wp_region_held_drew (S := fun _ => True) (by kernel_rfl) trivial (fun _ => ?_)
  refine wpAnyH_ready (rs := [0]) (by kernel_rfl) (by simp) ?_
  refine AllReadyH.cons (o := ({ dst := some 47, op := Go.Op.call { callee := Go.Callee.value (Go.Operand.func 7), args := #[], argTypes := #[] }, type := 4, pos := "law.go:29", after := #[], guard := none } : Oper)) rfl (fun K0 hK0 => ?_) AllReadyH.nil
  go_simp
  go_at_call 7
  refine (HL.out _).mono ?_
  rintro e w6 ⟨rfl, hb⟩
  have HB := Lib.hid (HB.out.trans (hb.mono HB.out.size))
  have HX := Lib.hid (HX.out.next hb)
  have hSS : (fun W => (W.cell? ⟨w.heap.size, 0, none⟩ = some (.int .i64 k) ∧ W.cell? ⟨w.heap.size, 1, none⟩ = some (.int .i64 f) ∧ W.cell? ⟨w.heap.size, 2, none⟩ = some (.int .i64 t) ∧ W.cell? ⟨w.heap.size, 3, none⟩ = some (.int .i64 x) ∧ W.cell? ⟨w.heap.size, 4, none⟩ = some (.slice A n cap1)) ∧ (convert 26 9 (.slice none 0 0)).run Try.prog W = .ok (.string S) W ∧ (convert 26 9 (.slice none 0 0)).run Try.prog W = .ok (.string S) W) w6 := ⟨HX.out.cells, conv_ownS (OwnB.nil _ 0) S HSS.out, conv_ownS (OwnB.nil _ 0) S HSS.out⟩
  clear hb
  try go_wp2_with fail
  refine hK0.out _ _ trivial (fun _ => ?_)
  clear hK0 K0
  try simp only [Act.put, List.setIfInBounds_toArray, List.set_cons_zero, List.set_cons_succ]
  refine wpAnyH_mono (S' := (fun W => (W.cell? ⟨w.heap.size, 0, none⟩ = some (.int .i64 k) ∧ W.cell? ⟨w.heap.size, 1, none⟩ = some (.int .i64 f) ∧ W.cell? ⟨w.heap.size, 2, none⟩ = some (.int .i64 t) ∧ W.cell? ⟨w.heap.size, 3, none⟩ = some (.int .i64 x) ∧ W.cell? ⟨w.heap.size, 4, none⟩ = some (.slice A n cap1)) ∧ (convert 26 9 (.slice none 0 0)).run Try.prog W = .ok (.string S) W ∧ (convert 26 9 (.slice none 0 0)).run Try.prog W = .ok (.string S) W)) (fun _ _ => trivial) ?_
  refine wpAnyH_take (i := 1) (oi := ({ dst := some 48, op := Go.Op.move (Go.Operand.tmp 47), type := 4, pos := "law.go:29", after := #[{ on := 0, ground := Go.Ground.data }, { on := 0, ground := Go.Ground.chain }], guard := none } : Oper)) (v := ?v1x1) rfl (by kernel_rfl) (by kernel_rfl) (by kernel_rfl) (fun _ _ _ h => h) (Or.inl ⟨by rfl, ?hy1x1⟩) (by first | exact trivial | assumption) ?rest1x1
  case hy1x1 =>
    intro W0 hSw
    obtain ⟨⟨s0, s1, s2, s3, s4⟩, s5, s6⟩ := hSw
    go_simp
    first | done | with_reducible rfl
  try simp only [Act.put, List.setIfInBounds_toArray, List.set_cons_zero, List.set_cons_succ]
  refine wpAnyH_take (i := 2) (oi := ({ dst := some 49, op := Go.Op.load 25 (Go.Operand.tmp 2), type := 25, pos := "law.go:29", after := #[{ on := 1, ground := Go.Ground.guard }], guard := some (1, true) } : Oper)) (v := ?v2x2) rfl (by kernel_rfl) (by kernel_rfl) (by kernel_rfl) (fun _ _ _ h => h) (Or.inl ⟨by rfl, ?hy2x2⟩) (by first | exact trivial | assumption) ?rest2x2
  case hy2x2 =>
    intro W0 hSw
    obtain ⟨⟨s0, s1, s2, s3, s4⟩, s5, s6⟩ := hSw
    go_simp
    first | done | with_reducible rfl
  try simp only [Act.put, List.setIfInBounds_toArray, List.set_cons_zero, List.set_cons_succ]
  refine wpAnyH_take (i := 4) (oi := ({ dst := some 51, op := Go.Op.load 25 (Go.Operand.tmp 2), type := 25, pos := "law.go:29", after := #[{ on := 1, ground := Go.Ground.guard }], guard := some (1, true) } : Oper)) (v := ?v4x3) rfl (by kernel_rfl) (by kernel_rfl) (by kernel_rfl) (fun _ _ _ h => h) (Or.inl ⟨by rfl, ?hy4x3⟩) (by first | exact trivial | assumption) ?rest4x3
  case hy4x3 =>
    intro W0 hSw
    obtain ⟨⟨s0, s1, s2, s3, s4⟩, s5, s6⟩ := hSw
    go_simp
    first | done | with_reducible rfl
  try simp only [Act.put, List.setIfInBounds_toArray, List.set_cons_zero, List.set_cons_succ]
  refine wpAnyH_ready (rs := [3]) (by kernel_rfl) (by simp) ?_
  refine AllReadyH.cons (o := ({ dst := some 50, op := Go.Op.call { callee := Go.Callee.value (Go.Operand.func 13), args := #[Go.Operand.tmp 49], argTypes := #[25] }, type := 4, pos := "law.go:29", after := #[{ on := 2, ground := Go.Ground.data }, { on := 1, ground := Go.Ground.chain }, { on := 1, ground := Go.Ground.guard }], guard := some (1, true) } : Oper)) rfl (fun K0 hK0 => ?_) AllReadyH.nil
  go_simp
  go_at_call 13
  refine (HRL.out _ _ _ HX.out.rd).mono ?_
  rintro e w7 ⟨rfl, hb⟩
  have HB := Lib.hid (HB.out.trans (hb.mono HB.out.size))
  have HX := Lib.hid (HX.out.next hb)
  have hSS : (fun W => (W.cell? ⟨w.heap.size, 0, none⟩ = some (.int .i64 k) ∧ W.cell? ⟨w.heap.size, 1, none⟩ = some (.int .i64 f) ∧ W.cell? ⟨w.heap.size, 2, none⟩ = some (.int .i64 t) ∧ W.cell? ⟨w.heap.size, 3, none⟩ = some (.int .i64 x) ∧ W.cell? ⟨w.heap.size, 4, none⟩ = some (.slice A n cap1)) ∧ (convert 26 9 (.slice none 0 0)).run Try.prog W = .ok (.string S) W ∧ (convert 26 9 (.slice none 0 0)).run Try.prog W = .ok (.string S) W) w7 := ⟨HX.out.cells, conv_ownS (OwnB.nil _ 0) S HSS.out, conv_ownS (OwnB.nil _ 0) S HSS.out⟩
  clear hb
  try go_wp2_with fail
  refine hK0.out _ _ hSS (fun _ => ?_)
  clear hK0 K0
  try simp only [Act.put, List.setIfInBounds_toArray, List.set_cons_zero, List.set_cons_succ]
  refine wpAnyH_ready (rs := [5]) (by kernel_rfl) (by simp) ?_
  refine AllReadyH.cons (o := ({ dst := some 52, op := Go.Op.call { callee := Go.Callee.value (Go.Operand.func 14), args := #[Go.Operand.tmp 51], argTypes := #[25] }, type := 4, pos := "law.go:29", after := #[{ on := 4, ground := Go.Ground.data }, { on := 3, ground := Go.Ground.chain }, { on := 1, ground := Go.Ground.guard }], guard := some (1, true) } : Oper)) rfl (fun K0 hK0 => ?_) AllReadyH.nil
  go_simp
  go_at_call 14
  refine (HRR.out _ _ _ HX.out.rd).mono ?_
  rintro e w8 ⟨rfl, hb⟩
  have HB := Lib.hid (HB.out.trans (hb.mono HB.out.size))
  have HX := Lib.hid (HX.out.next hb)
  have hSS : (fun W => (W.cell? ⟨w.heap.size, 0, none⟩ = some (.int .i64 k) ∧ W.cell? ⟨w.heap.size, 1, none⟩ = some (.int .i64 f) ∧ W.cell? ⟨w.heap.size, 2, none⟩ = some (.int .i64 t) ∧ W.cell? ⟨w.heap.size, 3, none⟩ = some (.int .i64 x) ∧ W.cell? ⟨w.heap.size, 4, none⟩ = some (.slice A n cap1)) ∧ (convert 26 9 (.slice none 0 0)).run Try.prog W = .ok (.string S) W ∧ (convert 26 9 (.slice none 0 0)).run Try.prog W = .ok (.string S) W) w8 := ⟨HX.out.cells, conv_ownS (OwnB.nil _ 0) S HSS.out, conv_ownS (OwnB.nil _ 0) S HSS.out⟩
  clear hb
  try go_wp2_with fail
  refine hK0.out _ _ hSS (fun _ => ?_)
  clear hK0 K0
  try simp only [Act.put, List.setIfInBounds_toArray, List.set_cons_zero, List.set_cons_succ]
  refine wpAnyH_take (i := 6) (oi := ({ dst := some 53, op := Go.Op.binOp Go.BinOp.eql 4 (Go.Operand.tmp 50) (Go.Operand.tmp 52) 4, type := 4, pos := "law.go:29", after := #[{ on := 3, ground := Go.Ground.data }, { on := 5, ground := Go.Ground.data }, { on := 1, ground := Go.Ground.guard }], guard := some (1, true) } : Oper)) (v := ?v6x4) rfl (by kernel_rfl) (by kernel_rfl) (by kernel_rfl) (fun _ _ _ h => h) (Or.inl ⟨by rfl, ?hy6x4⟩) (by first | exact trivial | assumption) ?rest6x4
  case hy6x4 =>
    intro W0 hSw
    obtain ⟨⟨s0, s1, s2, s3, s4⟩, s5, s6⟩ := hSw
    go_simp
    first | done | with_reducible rfl
  try simp only [Act.put, List.setIfInBounds_toArray, List.set_cons_zero, List.set_cons_succ]
  refine wpAnyH_take (i := 7) (oi := ({ dst := some 54, op := Go.Op.pick (Go.Operand.tmp 48) (Go.Operand.tmp 53) (Go.Operand.const (Go.Value.bool false)), type := 4, pos := "law.go:29", after := #[{ on := 1, ground := Go.Ground.data }, { on := 6, ground := Go.Ground.data }], guard := none } : Oper)) (v := ?v7x5) rfl (by kernel_rfl) (by kernel_rfl) (by kernel_rfl) (fun _ _ _ h => h) (Or.inl ⟨by rfl, ?hy7x5⟩) (by first | exact trivial | assumption) ?rest7x5
  case hy7x5 =>
    intro W0 hSw
    obtain ⟨⟨s0, s1, s2, s3, s4⟩, s5, s6⟩ := hSw
    go_simp
    first | done | with_reducible rfl
  try simp only [Act.put, List.setIfInBounds_toArray, List.set_cons_zero, List.set_cons_succ]
  refine wpAnyH_take (i := 8) (oi := ({ dst := some 55, op := Go.Op.move (Go.Operand.tmp 54), type := 4, pos := "law.go:29", after := #[{ on := 7, ground := Go.Ground.data }, { on := 5, ground := Go.Ground.chain }], guard := none } : Oper)) (v := ?v8x6) rfl (by kernel_rfl) (by kernel_rfl) (by kernel_rfl) (fun _ _ _ h => h) (Or.inl ⟨by rfl, ?hy8x6⟩) (by first | exact trivial | assumption) ?rest8x6
  case hy8x6 =>
    intro W0 hSw
    obtain ⟨⟨s0, s1, s2, s3, s4⟩, s5, s6⟩ := hSw
    go_simp
    first | done | with_reducible rfl
  try simp only [Act.put, List.setIfInBounds_toArray, List.set_cons_zero, List.set_cons_succ]
  refine wpAnyH_take (i := 9) (oi := ({ dst := some 56, op := Go.Op.move (Go.Operand.tmp 5), type := 26, pos := "law.go:29", after := #[{ on := 8, ground := Go.Ground.guard }], guard := some (8, true) } : Oper)) (v := ?v9x7) rfl (by kernel_rfl) (by kernel_rfl) (by kernel_rfl) (fun _ _ _ h => h) (Or.inl ⟨by rfl, ?hy9x7⟩) (by first | exact trivial | assumption) ?rest9x7
  case hy9x7 =>
    intro W0 hSw
    obtain ⟨⟨s0, s1, s2, s3, s4⟩, s5, s6⟩ := hSw
    go_simp
    first | done | with_reducible rfl
  try simp only [Act.put, List.setIfInBounds_toArray, List.set_cons_zero, List.set_cons_succ]
  refine wpAnyH_take (i := 10) (oi := ({ dst := some 57, op := Go.Op.convert 26 9 (Go.Operand.tmp 56), type := 9, pos := "law.go:29", after := #[{ on := 9, ground := Go.Ground.data }, { on := 8, ground := Go.Ground.guard }], guard := some (8, true) } : Oper)) (v := ?v10x8) rfl (by kernel_rfl) (by kernel_rfl) (by kernel_rfl) (fun _ _ _ h => h) (Or.inl ⟨by rfl, ?hy10x8⟩) (by first | exact trivial | assumption) ?rest10x8
  case hy10x8 =>
    intro W0 hSw
    obtain ⟨⟨s0, s1, s2, s3, s4⟩, s5, s6⟩ := hSw
    go_simp
    first | done | with_reducible rfl
  try simp only [Act.put, List.setIfInBounds_toArray, List.set_cons_zero, List.set_cons_succ]
  refine wpAnyH_take (i := 11) (oi := ({ dst := some 58, op := Go.Op.move (Go.Operand.tmp 7), type := 26, pos := "law.go:29", after := #[{ on := 8, ground := Go.Ground.guard }], guard := some (8, true) } : Oper)) (v := ?v11x9) rfl (by kernel_rfl) (by kernel_rfl) (by kernel_rfl) (fun _ _ _ h => h) (Or.inl ⟨by rfl, ?hy11x9⟩) (by first | exact trivial | assumption) ?rest11x9
  case hy11x9 =>
    intro W0 hSw
    obtain ⟨⟨s0, s1, s2, s3, s4⟩, s5, s6⟩ := hSw
    go_simp
    first | done | with_reducible rfl
  try simp only [Act.put, List.setIfInBounds_toArray, List.set_cons_zero, List.set_cons_succ]
  refine wpAnyH_take (i := 12) (oi := ({ dst := some 59, op := Go.Op.convert 26 9 (Go.Operand.tmp 58), type := 9, pos := "law.go:29", after := #[{ on := 11, ground := Go.Ground.data }, { on := 8, ground := Go.Ground.guard }], guard := some (8, true) } : Oper)) (v := ?v12x10) rfl (by kernel_rfl) (by kernel_rfl) (by kernel_rfl) (fun _ _ _ h => h) (Or.inl ⟨by rfl, ?hy12x10⟩) (by first | exact trivial | assumption) ?rest12x10
  case hy12x10 =>
    intro W0 hSw
    obtain ⟨⟨s0, s1, s2, s3, s4⟩, s5, s6⟩ := hSw
    go_simp
    first | done | with_reducible rfl
  try simp only [Act.put, List.setIfInBounds_toArray, List.set_cons_zero, List.set_cons_succ]
  refine wpAnyH_take (i := 13) (oi := ({ dst := some 60, op := Go.Op.binOp Go.BinOp.eql 9 (Go.Operand.tmp 57) (Go.Operand.tmp 59) 9, type := 4, pos := "law.go:29", after := #[{ on := 10, ground := Go.Ground.data }, { on := 12, ground := Go.Ground.data }, { on := 8, ground := Go.Ground.guard }], guard := some (8, true) } : Oper)) (v := ?v13x11) rfl (by kernel_rfl) (by kernel_rfl) (by kernel_rfl) (fun _ _ _ h => h) (Or.inl ⟨by rfl, ?hy13x11⟩) (by first | exact trivial | assumption) ?rest13x11
  case hy13x11 =>
    intro W0 hSw
    obtain ⟨⟨s0, s1, s2, s3, s4⟩, s5, s6⟩ := hSw
    go_simp
    first | done | with_reducible rfl
  try simp only [Act.put, List.setIfInBounds_toArray, List.set_cons_zero, List.set_cons_succ]
  refine wpAnyH_take (i := 14) (oi := ({ dst := some 61, op := Go.Op.pick (Go.Operand.tmp 55) (Go.Operand.tmp 60) (Go.Operand.const (Go.Value.bool false)), type := 4, pos := "law.go:29", after := #[{ on := 8, ground := Go.Ground.data }, { on := 13, ground := Go.Ground.data }], guard := none } : Oper)) (v := ?v14x12) rfl (by kernel_rfl) (by kernel_rfl) (by kernel_rfl) (fun _ _ _ h => h) (Or.inl ⟨by rfl, ?hy14x12⟩) (by first | exact trivial | assumption) ?rest14x12
  case hy14x12 =>
    intro W0 hSw
    obtain ⟨⟨s0, s1, s2, s3, s4⟩, s5, s6⟩ := hSw
    go_simp
    first | done | with_reducible rfl
  try simp only [Act.put, List.setIfInBounds_toArray, List.set_cons_zero, List.set_cons_succ]
  refine wpAnyH_take (i := 15) (oi := ({ dst := some 62, op := Go.Op.move (Go.Operand.tmp 61), type := 4, pos := "law.go:29", after := #[{ on := 14, ground := Go.Ground.data }, { on := 8, ground := Go.Ground.chain }], guard := none } : Oper)) (v := ?v15x13) rfl (by kernel_rfl) (by kernel_rfl) (by kernel_rfl) (fun _ _ _ h => h) (Or.inl ⟨by rfl, ?hy15x13⟩) (by first | exact trivial | assumption) ?rest15x13
  case hy15x13 =>
    intro W0 hSw
    obtain ⟨⟨s0, s1, s2, s3, s4⟩, s5, s6⟩ := hSw
    go_simp
    first | done | with_reducible rfl
  try simp only [Act.put, List.setIfInBounds_toArray, List.set_cons_zero, List.set_cons_succ]
  refine wpAnyH_take (i := 16) (oi := ({ dst := some 63, op := Go.Op.move (Go.Operand.tmp 6), type := 28, pos := "law.go:29", after := #[{ on := 15, ground := Go.Ground.guard }], guard := some (15, true) } : Oper)) (v := ?v16x14) rfl (by kernel_rfl) (by kernel_rfl) (by kernel_rfl) (fun _ _ _ h => h) (Or.inl ⟨by rfl, ?hy16x14⟩) (by first | exact trivial | assumption) ?rest16x14
  case hy16x14 =>
    intro W0 hSw
    obtain ⟨⟨s0, s1, s2, s3, s4⟩, s5, s6⟩ := hSw
    go_simp
    first | done | with_reducible rfl
  try simp only [Act.put, List.setIfInBounds_toArray, List.set_cons_zero, List.set_cons_succ]
  refine wpAnyH_take (i := 17) (oi := ({ dst := some 64, op := Go.Op.move (Go.Operand.tmp 8), type := 28, pos := "law.go:29", after := #[{ on := 15, ground := Go.Ground.guard }], guard := some (15, true) } : Oper)) (v := ?v17x15) rfl (by kernel_rfl) (by kernel_rfl) (by kernel_rfl) (fun _ _ _ h => h) (Or.inl ⟨by rfl, ?hy17x15⟩) (by first | exact trivial | assumption) ?rest17x15
  case hy17x15 =>
    intro W0 hSw
    obtain ⟨⟨s0, s1, s2, s3, s4⟩, s5, s6⟩ := hSw
    go_simp
    first | done | with_reducible rfl
  try simp only [Act.put, List.setIfInBounds_toArray, List.set_cons_zero, List.set_cons_succ]
  refine wpAnyH_take (i := 18) (oi := ({ dst := some 65, op := Go.Op.binOp Go.BinOp.eql 28 (Go.Operand.tmp 63) (Go.Operand.tmp 64) 28, type := 4, pos := "law.go:29", after := #[{ on := 16, ground := Go.Ground.data }, { on := 17, ground := Go.Ground.data }, { on := 15, ground := Go.Ground.guard }], guard := some (15, true) } : Oper)) (v := ?v18x16) rfl (by kernel_rfl) (by kernel_rfl) (by kernel_rfl) (fun _ _ _ h => h) (Or.inl ⟨by rfl, ?hy18x16⟩) (by first | exact trivial | assumption) ?rest18x16
  case hy18x16 =>
    intro W0 hSw
    obtain ⟨⟨s0, s1, s2, s3, s4⟩, s5, s6⟩ := hSw
    go_simp
    first | done | with_reducible rfl
  try simp only [Act.put, List.setIfInBounds_toArray, List.set_cons_zero, List.set_cons_succ]
  refine wpAnyH_take (i := 19) (oi := ({ dst := some 66, op := Go.Op.pick (Go.Operand.tmp 62) (Go.Operand.tmp 65) (Go.Operand.const (Go.Value.bool false)), type := 4, pos := "law.go:29", after := #[{ on := 15, ground := Go.Ground.data }, { on := 18, ground := Go.Ground.data }], guard := none } : Oper)) (v := ?v19x17) rfl (by kernel_rfl) (by kernel_rfl) (by kernel_rfl) (fun _ _ _ h => h) (Or.inl ⟨by rfl, ?hy19x17⟩) (by first | exact trivial | assumption) ?rest19x17
  case hy19x17 =>
    intro W0 hSw
    obtain ⟨⟨s0, s1, s2, s3, s4⟩, s5, s6⟩ := hSw
    go_simp
    first | done | with_reducible rfl
  try simp only [Act.put, List.setIfInBounds_toArray, List.set_cons_zero, List.set_cons_succ]
  refine wpAnyH_take (i := 20) (oi := ({ dst := some 67, op := Go.Op.move (Go.Operand.tmp 66), type := 4, pos := "law.go:29", after := #[{ on := 19, ground := Go.Ground.data }, { on := 15, ground := Go.Ground.chain }], guard := none } : Oper)) (v := ?v20x18) rfl (by kernel_rfl) (by kernel_rfl) (by kernel_rfl) (fun _ _ _ h => h) (Or.inl ⟨by rfl, ?hy20x18⟩) (by first | exact trivial | assumption) ?rest20x18
  case hy20x18 =>
    intro W0 hSw
    obtain ⟨⟨s0, s1, s2, s3, s4⟩, s5, s6⟩ := hSw
    go_simp
    first | done | with_reducible rfl
  try simp only [Act.put, List.setIfInBounds_toArray, List.set_cons_zero, List.set_cons_succ]
  refine wpAnyH_take (i := 21) (oi := ({ dst := some 68, op := Go.Op.move (Go.Operand.tmp 13), type := 4, pos := "law.go:29", after := #[{ on := 20, ground := Go.Ground.guard }], guard := some (20, true) } : Oper)) (v := ?v21x19) rfl (by kernel_rfl) (by kernel_rfl) (by kernel_rfl) (fun _ _ _ h => h) (Or.inl ⟨by rfl, ?hy21x19⟩) (by first | exact trivial | assumption) ?rest21x19
  case hy21x19 =>
    intro W0 hSw
    obtain ⟨⟨s0, s1, s2, s3, s4⟩, s5, s6⟩ := hSw
    go_simp
    first | done | with_reducible rfl
  try simp only [Act.put, List.setIfInBounds_toArray, List.set_cons_zero, List.set_cons_succ]
  refine wpAnyH_take (i := 22) (oi := ({ dst := some 69, op := Go.Op.pick (Go.Operand.tmp 67) (Go.Operand.tmp 68) (Go.Operand.const (Go.Value.bool false)), type := 4, pos := "law.go:29", after := #[{ on := 20, ground := Go.Ground.data }, { on := 21, ground := Go.Ground.data }], guard := none } : Oper)) (v := ?v22x20) rfl (by kernel_rfl) (by kernel_rfl) (by kernel_rfl) (fun _ _ _ h => h) (Or.inl ⟨by rfl, ?hy22x20⟩) (by first | exact trivial | assumption) ?rest22x20
  case hy22x20 =>
    intro W0 hSw
    obtain ⟨⟨s0, s1, s2, s3, s4⟩, s5, s6⟩ := hSw
    go_simp
    first | done | with_reducible rfl
  try simp only [Act.put, List.setIfInBounds_toArray, List.set_cons_zero, List.set_cons_succ]
  refine wpAnyH_take (i := 23) (oi := ({ dst := some 70, op := Go.Op.move (Go.Operand.tmp 69), type := 4, pos := "law.go:29", after := #[{ on := 22, ground := Go.Ground.data }, { on := 20, ground := Go.Ground.chain }], guard := none } : Oper)) (v := ?v23x21) rfl (by kernel_rfl) (by kernel_rfl) (by kernel_rfl) (fun _ _ _ h => h) (Or.inl ⟨by rfl, ?hy23x21⟩) (by first | exact trivial | assumption) ?rest23x21
  case hy23x21 =>
    intro W0 hSw
    obtain ⟨⟨s0, s1, s2, s3, s4⟩, s5, s6⟩ := hSw
    go_simp
    first | done | with_reducible rfl
  try simp only [Act.put, List.setIfInBounds_toArray, List.set_cons_zero, List.set_cons_succ]
  refine wpAnyH_take (i := 24) (oi := ({ dst := some 71, op := Go.Op.move (Go.Operand.tmp 10), type := 28, pos := "law.go:29", after := #[{ on := 23, ground := Go.Ground.guard }], guard := some (23, true) } : Oper)) (v := ?v24x22) rfl (by kernel_rfl) (by kernel_rfl) (by kernel_rfl) (fun _ _ _ h => h) (Or.inl ⟨by rfl, ?hy24x22⟩) (by first | exact trivial | assumption) ?rest24x22
  case hy24x22 =>
    intro W0 hSw
    obtain ⟨⟨s0, s1, s2, s3, s4⟩, s5, s6⟩ := hSw
    go_simp
    first | done | with_reducible rfl
  try simp only [Act.put, List.setIfInBounds_toArray, List.set_cons_zero, List.set_cons_succ]
  refine wpAnyH_take (i := 25) (oi := ({ dst := some 72, op := Go.Op.move (Go.Operand.tmp 12), type := 28, pos := "law.go:29", after := #[{ on := 23, ground := Go.Ground.guard }], guard := some (23, true) } : Oper)) (v := ?v25x23) rfl (by kernel_rfl) (by kernel_rfl) (by kernel_rfl) (fun _ _ _ h => h) (Or.inl ⟨by rfl, ?hy25x23⟩) (by first | exact trivial | assumption) ?rest25x23
  case hy25x23 =>
    intro W0 hSw
    obtain ⟨⟨s0, s1, s2, s3, s4⟩, s5, s6⟩ := hSw
    go_simp
    first | done | with_reducible rfl
  try simp only [Act.put, List.setIfInBounds_toArray, List.set_cons_zero, List.set_cons_succ]
  refine wpAnyH_take (i := 26) (oi := ({ dst := some 73, op := Go.Op.binOp Go.BinOp.eql 28 (Go.Operand.tmp 71) (Go.Operand.tmp 72) 28, type := 4, pos := "law.go:29", after := #[{ on := 24, ground := Go.Ground.data }, { on := 25, ground := Go.Ground.data }, { on := 23, ground := Go.Ground.guard }], guard := some (23, true) } : Oper)) (v := ?v26x24) rfl (by kernel_rfl) (by kernel_rfl) (by kernel_rfl) (fun _ _ _ h => h) (Or.inl ⟨by rfl, ?hy26x24⟩) (by first | exact trivial | assumption) ?rest26x24
  case hy26x24 =>
    intro W0 hSw
    obtain ⟨⟨s0, s1, s2, s3, s4⟩, s5, s6⟩ := hSw
    go_simp
    first | done | with_reducible rfl
  try simp only [Act.put, List.setIfInBounds_toArray, List.set_cons_zero, List.set_cons_succ]
  refine wpAnyH_take (i := 27) (oi := ({ dst := some 74, op := Go.Op.pick (Go.Operand.tmp 70) (Go.Operand.tmp 73) (Go.Operand.const (Go.Value.bool false)), type := 4, pos := "law.go:29", after := #[{ on := 23, ground := Go.Ground.data }, { on := 26, ground := Go.Ground.data }], guard := none } : Oper)) (v := ?v27x25) rfl (by kernel_rfl) (by kernel_rfl) (by kernel_rfl) (fun _ _ _ h => h) (Or.inl ⟨by rfl, ?hy27x25⟩) (by first | exact trivial | assumption) ?rest27x25
  case hy27x25 =>
    intro W0 hSw
    obtain ⟨⟨s0, s1, s2, s3, s4⟩, s5, s6⟩ := hSw
    go_simp
    first | done | with_reducible rfl
  try simp only [Act.put, List.setIfInBounds_toArray, List.set_cons_zero, List.set_cons_succ]
  refine wpAnyH_take (i := 28) (oi := ({ dst := some 4, op := Go.Op.assign (Go.Operand.tmp 74), type := 4, pos := "law.go:29", after := #[{ on := 27, ground := Go.Ground.data }, { on := 23, ground := Go.Ground.chain }, { on := 0, ground := Go.Ground.phase }, { on := 1, ground := Go.Ground.phase }, { on := 2, ground := Go.Ground.phase }, { on := 3, ground := Go.Ground.phase }, { on := 4, ground := Go.Ground.phase }, { on := 5, ground := Go.Ground.phase }, { on := 6, ground := Go.Ground.phase }, { on := 7, ground := Go.Ground.phase }, { on := 8, ground := Go.Ground.phase }, { on := 9, ground := Go.Ground.phase }, { on := 10, ground := Go.Ground.phase }, { on := 11, ground := Go.Ground.phase }, { on := 12, ground := Go.Ground.phase }, { on := 13, ground := Go.Ground.phase }, { on := 14, ground := Go.Ground.phase }, { on := 15, ground := Go.Ground.phase }, { on := 16, ground := Go.Ground.phase }, { on := 17, ground := Go.Ground.phase }, { on := 18, ground := Go.Ground.phase }, { on := 19, ground := Go.Ground.phase }, { on := 20, ground := Go.Ground.phase }, { on := 21, ground := Go.Ground.phase }, { on := 22, ground := Go.Ground.phase }, { on := 23, ground := Go.Ground.phase }, { on := 24, ground := Go.Ground.phase }, { on := 25, ground := Go.Ground.phase }, { on := 26, ground := Go.Ground.phase }, { on := 27, ground := Go.Ground.phase }], guard := none } : Oper)) (v := ?v28x26) rfl (by kernel_rfl) (by kernel_rfl) (by kernel_rfl) (fun _ _ _ h => h) (Or.inl ⟨by rfl, ?hy28x26⟩) (by first | exact trivial | assumption) ?rest28x26
  case hy28x26 =>
    intro W0 hSw
    obtain ⟨⟨s0, s1, s2, s3, s4⟩, s5, s6⟩ := hSw
    go_simp
    first | done | with_reducible rfl
  try simp only [Act.put, List.setIfInBounds_toArray, List.set_cons_zero, List.set_cons_succ]
  refine wpAnyH_done (by kernel_rfl) ?_ _
  go_wp2_with fail
  go_ret
  exact ⟨rfl, HB.out⟩
set_option maxRecDepth 100000 in
set_option maxHeartbeats 16000000 in
theorem le_n_y (l : Ltr) (b : List UInt8) (A C : Option Addr) (cap1 cap2 n nb : Nat) (w : World) (hn : l.ns.length = n) (hnb : b.length = nb) (h1 : n ≤ 300) (h2 : nb ≤ 300) (hcb : nb ≤ cap2) (hr : RdI w w.heap.size A l.ns) (hrb : RdB w w.heap.size C b) (hno : ∀ z : Ltr, z.right = true → b ≠ z.bytes) (hR : l.right = true) :
    Calls Try.prog 3 #[.agg #[.int .i64 l.k, .int .i64 l.f, .int .i64 l.t, .int .i64 l.x, .slice A n cap1], .slice C nb cap2] w (Ans (.bool true) w) := by
  have HX : Hid (LBx (w.alloc (lv l A n cap1)) w.heap.size l A n cap1) := Lib.hid ⟨heap_alloc_new w _, (hr.below (alloc_below w _) (Nat.le_refl _)).more (alloc_below w _).size⟩
  have HB : Hid (Below w.heap.size w (w.alloc (lv l A n cap1))) := Lib.hid (alloc_below w _)
  have HRB : Hid (∀ W, Below w.heap.size w W → RdB W W.heap.size C b) := Lib.hid fun W hb => (hrb.below hb (Nat.le_refl _)).more hb.size
  have HL := Lib.hid aliveZ_any
  have h1i : ¬ (300 : Int) < (n : Int) := by omega
  have h2i : ¬ (300 : Int) < (nb : Int) := by omega
  have HDB := Lib.hid (fun W hW => decL_not hno hnb hcb (HRB.out W hW) (A := C))
  have HRD := Lib.hid (fun W (hW : Below w.heap.size w W) => refDecL_not hno hnb hcb (by omega) (HRB.out W hW) (A := C))
  have HSM := Lib.hid (fun W => refSameL_any ⟨0, 0, 0, 0, []⟩ ⟨0, 0, 0, 0, []⟩ none none 0 0 0 0 rfl rfl (by omega) (by omega) W (RdI.nil _ _ _) (RdI.nil _ _ _))
  rw [sameL_self] at HSM
  have HEL := Lib.hid (fun W A cap hrd => encL_yes hR (encodeL_any l A n cap hn (by omega) W hrd))
  have HRE := Lib.hid (fun W A cap hrd => refEncL_yes l hR A n cap hn W hrd)
  obtain ⟨S, hS⟩ := ba_of l.bytes
  have HSS := Lib.hid hS
  have HRL := Lib.hid (fun W A cap hrd => rightL_any l.k l.f l.t l.x l.ns A n cap hn (by omega) W hrd)
  rw [show Ltr.right ⟨l.k, l.f, l.t, l.x, l.ns⟩ = true from hR] at HRL
  have HRR := Lib.hid (fun W A cap hrd => refRgt_any l.k l.f l.t l.x l.ns A n cap hn (by omega) W hrd)
  rw [show Ltr.right ⟨l.k, l.f, l.t, l.x, l.ns⟩ = true from hR] at HRR
  have hse : (S.toList == S.toList) = true := by simp
  clear hr hrb hcb h1 h2 hn hnb hR hS hno
  obtain ⟨x0, x1, x2, x3, x4⟩ := HX.out.cells
  obtain ⟨k, f, t, x, ns⟩ := l
  unfold lv at HX HB x0 x1 x2 x3 x4
  simp only at *
  go_enter Try.func3, Try.ntmps3
  go_wp2_with (first
    | (go_at_call 8; (with_reducible refine (HEL.out _ _ _ HX.out.rd).mono ?_); rintro e w1 ⟨vx, rfl, ho, hb⟩
       obtain ⟨XA, xc, hvx, _⟩ := ho.2
       obtain ⟨xn, hxn⟩ : ∃ xn, (Ltr.bytes ⟨k, f, t, x, ns⟩).length = xn := ⟨_, rfl⟩
       rw [hxn] at hvx
       subst hvx
       have HOA := Lib.hid ho
       have HB := Lib.hid (HB.out.trans (hb.mono HB.out.size))
       have HX := Lib.hid (HX.out.next hb)
       clear x0 x1 x2 x3 x4
       obtain ⟨x0, x1, x2, x3, x4⟩ := HX.out.cells
       clear ho hb hxn)
    | (go_at_call 9; (with_reducible refine (HRE.out _ _ _ HX.out.rd).mono ?_); rintro e w2 ⟨vy, rfl, ho, hb⟩
       obtain ⟨YA, yc, hvy, _⟩ := ho.2
       obtain ⟨yn, hyn⟩ : ∃ yn, (Ltr.bytes ⟨k, f, t, x, ns⟩).length = yn := ⟨_, rfl⟩
       rw [hyn] at hvy
       subst hvy
       have HOB := Lib.hid ho
       have HOA := Lib.hid (HOA.out.below hb)
       have HB := Lib.hid (HB.out.trans (hb.mono HB.out.size))
       have HX := Lib.hid (HX.out.next hb)
       clear x0 x1 x2 x3 x4
       obtain ⟨x0, x1, x2, x3, x4⟩ := HX.out.cells
       clear ho hb hyn)
    | (go_at_call 10; (with_reducible refine (HDB.out _ HB.out).mono ?_); rintro e w3 ⟨rfl, hb0⟩
       unfold zeroL
       have hb := hb0.trans ((alloc_below w3 (.cells #[.int .i64 0, .int .i64 0, .int .i64 0, .int .i64 0, .slice none 0 0] 25)).mono hb0.size)
       have HZ : Hid (LBx (w3.alloc (.cells #[.int .i64 0, .int .i64 0, .int .i64 0, .int .i64 0, .slice none 0 0] 25)) w3.heap.size ⟨0, 0, 0, 0, []⟩ none 0 0) := Lib.hid ⟨heap_alloc_new w3 _, RdI.nil _ _ _⟩
       have HOA := Lib.hid (HOA.out.below hb)
       have HOB := Lib.hid (HOB.out.below hb)
       have HB := Lib.hid (HB.out.trans (hb.mono HB.out.size))
       have HX := Lib.hid (HX.out.next hb)
       clear x0 x1 x2 x3 x4
       obtain ⟨x0, x1, x2, x3, x4⟩ := HX.out.cells
       obtain ⟨z0, z1, z2, z3, z4⟩ := HZ.out.cells
       clear hb hb0)
    | (go_at_call 11; (with_reducible refine (HRD.out _ HB.out).mono ?_); rintro e w4 ⟨rfl, hb0⟩
       unfold zeroL
       have hb := hb0.trans ((alloc_below w4 (.cells #[.int .i64 0, .int .i64 0, .int .i64 0, .int .i64 0, .slice none 0 0] 25)).mono hb0.size)
       have HW : Hid (LBx (w4.alloc (.cells #[.int .i64 0, .int .i64 0, .int .i64 0, .int .i64 0, .slice none 0 0] 25)) w4.heap.size ⟨0, 0, 0, 0, []⟩ none 0 0) := Lib.hid ⟨heap_alloc_new w4 _, RdI.nil _ _ _⟩
       have HZ := Lib.hid (HZ.out.next hb)
       clear z0 z1 z2 z3 z4
       obtain ⟨z0, z1, z2, z3, z4⟩ := HZ.out.cells
       have HOA := Lib.hid (HOA.out.below hb)
       have HOB := Lib.hid (HOB.out.below hb)
       have HB := Lib.hid (HB.out.trans (hb.mono HB.out.size))
       have HX := Lib.hid (HX.out.next hb)
       clear x0 x1 x2 x3 x4
       obtain ⟨x0, x1, x2, x3, x4⟩ := HX.out.cells
       obtain ⟨u0, u1, u2, u3, u4⟩ := HW.out.cells
       clear hb hb0)
    | (go_at_call 12; (with_reducible refine (HSM.out _).mono ?_); rintro e w5 ⟨rfl, hb⟩
       have HOA := Lib.hid (HOA.out.below hb)
       have HOB := Lib.hid (HOB.out.below hb)
       have HB := Lib.hid (HB.out.trans (hb.mono HB.out.size))
       have HX := Lib.hid (HX.out.next hb)
       clear x0 x1 x2 x3 x4
       obtain ⟨x0, x1, x2, x3, x4⟩ := HX.out.cells
       clear hb)
    | fail)
  have HB := Lib.hid (HB.out.trans ((drew_below _).mono HB.out.size))
  have HX := Lib.hid (HX.out.next (drew_below _))
  have HOA := Lib.hid (HOA.out.below (drew_below _))
  have HOB := Lib.hid (HOB.out.below (drew_below _))
  refine wp_region_held_drew (S := fun _ => True) (by kernel_rfl) trivial (fun _ => ?_)
  refine wpAnyH_ready (rs := [0]) (by kernel_rfl) (by simp) ?_
  refine AllReadyH.cons (o := ({ dst := some 47, op := Go.Op.call { callee := Go.Callee.value (Go.Operand.func 7), args := #[], argTypes := #[] }, type := 4, pos := "law.go:29", after := #[], guard := none } : Oper)) rfl (fun K0 hK0 => ?_) AllReadyH.nil
  go_simp
  go_at_call 7
  refine (HL.out _).mono ?_
  rintro e w6 ⟨rfl, hb⟩
  have HB := Lib.hid (HB.out.trans (hb.mono HB.out.size))
  have HX := Lib.hid (HX.out.next hb)
  have HOA := Lib.hid (HOA.out.below hb)
  have HOB := Lib.hid (HOB.out.below hb)
  have hSS : (fun W => (W.cell? ⟨w.heap.size, 0, none⟩ = some (.int .i64 k) ∧ W.cell? ⟨w.heap.size, 1, none⟩ = some (.int .i64 f) ∧ W.cell? ⟨w.heap.size, 2, none⟩ = some (.int .i64 t) ∧ W.cell? ⟨w.heap.size, 3, none⟩ = some (.int .i64 x) ∧ W.cell? ⟨w.heap.size, 4, none⟩ = some (.slice A n cap1)) ∧ (convert 26 9 (.slice XA xn xc)).run Try.prog W = .ok (.string S) W ∧ (convert 26 9 (.slice YA yn yc)).run Try.prog W = .ok (.string S) W) w6 := ⟨HX.out.cells, conv_ownS HOA.out S HSS.out, conv_ownS HOB.out S HSS.out⟩
  clear hb
  try go_wp2_with fail
  refine hK0.out _ _ trivial (fun _ => ?_)
  clear hK0 K0
  try simp only [Act.put, List.setIfInBounds_toArray, List.set_cons_zero, List.set_cons_succ]
  refine wpAnyH_mono (S' := (fun W => (W.cell? ⟨w.heap.size, 0, none⟩ = some (.int .i64 k) ∧ W.cell? ⟨w.heap.size, 1, none⟩ = some (.int .i64 f) ∧ W.cell? ⟨w.heap.size, 2, none⟩ = some (.int .i64 t) ∧ W.cell? ⟨w.heap.size, 3, none⟩ = some (.int .i64 x) ∧ W.cell? ⟨w.heap.size, 4, none⟩ = some (.slice A n cap1)) ∧ (convert 26 9 (.slice XA xn xc)).run Try.prog W = .ok (.string S) W ∧ (convert 26 9 (.slice YA yn yc)).run Try.prog W = .ok (.string S) W)) (fun _ _ => trivial) ?_
  refine wpAnyH_take (i := 1) (oi := ({ dst := some 48, op := Go.Op.move (Go.Operand.tmp 47), type := 4, pos := "law.go:29", after := #[{ on := 0, ground := Go.Ground.data }, { on := 0, ground := Go.Ground.chain }], guard := none } : Oper)) (v := ?v1x27) rfl (by kernel_rfl) (by kernel_rfl) (by kernel_rfl) (fun _ _ _ h => h) (Or.inl ⟨by rfl, ?hy1x27⟩) (by first | exact trivial | assumption) ?rest1x27
  case hy1x27 =>
    intro W0 hSw
    obtain ⟨⟨s0, s1, s2, s3, s4⟩, s5, s6⟩ := hSw
    go_simp
    first | done | with_reducible rfl
  try simp only [Act.put, List.setIfInBounds_toArray, List.set_cons_zero, List.set_cons_succ]
  refine wpAnyH_take (i := 2) (oi := ({ dst := some 49, op := Go.Op.load 25 (Go.Operand.tmp 2), type := 25, pos := "law.go:29", after := #[{ on := 1, ground := Go.Ground.guard }], guard := some (1, true) } : Oper)) (v := ?v2x28) rfl (by kernel_rfl) (by kernel_rfl) (by kernel_rfl) (fun _ _ _ h => h) (Or.inl ⟨by rfl, ?hy2x28⟩) (by first | exact trivial | assumption) ?rest2x28
  case hy2x28 =>
    intro W0 hSw
    obtain ⟨⟨s0, s1, s2, s3, s4⟩, s5, s6⟩ := hSw
    go_simp
    first | done | with_reducible rfl
  try simp only [Act.put, List.setIfInBounds_toArray, List.set_cons_zero, List.set_cons_succ]
  refine wpAnyH_take (i := 4) (oi := ({ dst := some 51, op := Go.Op.load 25 (Go.Operand.tmp 2), type := 25, pos := "law.go:29", after := #[{ on := 1, ground := Go.Ground.guard }], guard := some (1, true) } : Oper)) (v := ?v4x29) rfl (by kernel_rfl) (by kernel_rfl) (by kernel_rfl) (fun _ _ _ h => h) (Or.inl ⟨by rfl, ?hy4x29⟩) (by first | exact trivial | assumption) ?rest4x29
  case hy4x29 =>
    intro W0 hSw
    obtain ⟨⟨s0, s1, s2, s3, s4⟩, s5, s6⟩ := hSw
    go_simp
    first | done | with_reducible rfl
  try simp only [Act.put, List.setIfInBounds_toArray, List.set_cons_zero, List.set_cons_succ]
  refine wpAnyH_ready (rs := [3]) (by kernel_rfl) (by simp) ?_
  refine AllReadyH.cons (o := ({ dst := some 50, op := Go.Op.call { callee := Go.Callee.value (Go.Operand.func 13), args := #[Go.Operand.tmp 49], argTypes := #[25] }, type := 4, pos := "law.go:29", after := #[{ on := 2, ground := Go.Ground.data }, { on := 1, ground := Go.Ground.chain }, { on := 1, ground := Go.Ground.guard }], guard := some (1, true) } : Oper)) rfl (fun K0 hK0 => ?_) AllReadyH.nil
  go_simp
  go_at_call 13
  refine (HRL.out _ _ _ HX.out.rd).mono ?_
  rintro e w7 ⟨rfl, hb⟩
  have HB := Lib.hid (HB.out.trans (hb.mono HB.out.size))
  have HX := Lib.hid (HX.out.next hb)
  have HOA := Lib.hid (HOA.out.below hb)
  have HOB := Lib.hid (HOB.out.below hb)
  have hSS : (fun W => (W.cell? ⟨w.heap.size, 0, none⟩ = some (.int .i64 k) ∧ W.cell? ⟨w.heap.size, 1, none⟩ = some (.int .i64 f) ∧ W.cell? ⟨w.heap.size, 2, none⟩ = some (.int .i64 t) ∧ W.cell? ⟨w.heap.size, 3, none⟩ = some (.int .i64 x) ∧ W.cell? ⟨w.heap.size, 4, none⟩ = some (.slice A n cap1)) ∧ (convert 26 9 (.slice XA xn xc)).run Try.prog W = .ok (.string S) W ∧ (convert 26 9 (.slice YA yn yc)).run Try.prog W = .ok (.string S) W) w7 := ⟨HX.out.cells, conv_ownS HOA.out S HSS.out, conv_ownS HOB.out S HSS.out⟩
  clear hb
  try go_wp2_with fail
  refine hK0.out _ _ hSS (fun _ => ?_)
  clear hK0 K0
  try simp only [Act.put, List.setIfInBounds_toArray, List.set_cons_zero, List.set_cons_succ]
  refine wpAnyH_ready (rs := [5]) (by kernel_rfl) (by simp) ?_
  refine AllReadyH.cons (o := ({ dst := some 52, op := Go.Op.call { callee := Go.Callee.value (Go.Operand.func 14), args := #[Go.Operand.tmp 51], argTypes := #[25] }, type := 4, pos := "law.go:29", after := #[{ on := 4, ground := Go.Ground.data }, { on := 3, ground := Go.Ground.chain }, { on := 1, ground := Go.Ground.guard }], guard := some (1, true) } : Oper)) rfl (fun K0 hK0 => ?_) AllReadyH.nil
  go_simp
  go_at_call 14
  refine (HRR.out _ _ _ HX.out.rd).mono ?_
  rintro e w8 ⟨rfl, hb⟩
  have HB := Lib.hid (HB.out.trans (hb.mono HB.out.size))
  have HX := Lib.hid (HX.out.next hb)
  have HOA := Lib.hid (HOA.out.below hb)
  have HOB := Lib.hid (HOB.out.below hb)
  have hSS : (fun W => (W.cell? ⟨w.heap.size, 0, none⟩ = some (.int .i64 k) ∧ W.cell? ⟨w.heap.size, 1, none⟩ = some (.int .i64 f) ∧ W.cell? ⟨w.heap.size, 2, none⟩ = some (.int .i64 t) ∧ W.cell? ⟨w.heap.size, 3, none⟩ = some (.int .i64 x) ∧ W.cell? ⟨w.heap.size, 4, none⟩ = some (.slice A n cap1)) ∧ (convert 26 9 (.slice XA xn xc)).run Try.prog W = .ok (.string S) W ∧ (convert 26 9 (.slice YA yn yc)).run Try.prog W = .ok (.string S) W) w8 := ⟨HX.out.cells, conv_ownS HOA.out S HSS.out, conv_ownS HOB.out S HSS.out⟩
  clear hb
  try go_wp2_with fail
  refine hK0.out _ _ hSS (fun _ => ?_)
  clear hK0 K0
  try simp only [Act.put, List.setIfInBounds_toArray, List.set_cons_zero, List.set_cons_succ]
  refine wpAnyH_take (i := 6) (oi := ({ dst := some 53, op := Go.Op.binOp Go.BinOp.eql 4 (Go.Operand.tmp 50) (Go.Operand.tmp 52) 4, type := 4, pos := "law.go:29", after := #[{ on := 3, ground := Go.Ground.data }, { on := 5, ground := Go.Ground.data }, { on := 1, ground := Go.Ground.guard }], guard := some (1, true) } : Oper)) (v := ?v6x30) rfl (by kernel_rfl) (by kernel_rfl) (by kernel_rfl) (fun _ _ _ h => h) (Or.inl ⟨by rfl, ?hy6x30⟩) (by first | exact trivial | assumption) ?rest6x30
  case hy6x30 =>
    intro W0 hSw
    obtain ⟨⟨s0, s1, s2, s3, s4⟩, s5, s6⟩ := hSw
    go_simp
    first | done | with_reducible rfl
  try simp only [Act.put, List.setIfInBounds_toArray, List.set_cons_zero, List.set_cons_succ]
  refine wpAnyH_take (i := 7) (oi := ({ dst := some 54, op := Go.Op.pick (Go.Operand.tmp 48) (Go.Operand.tmp 53) (Go.Operand.const (Go.Value.bool false)), type := 4, pos := "law.go:29", after := #[{ on := 1, ground := Go.Ground.data }, { on := 6, ground := Go.Ground.data }], guard := none } : Oper)) (v := ?v7x31) rfl (by kernel_rfl) (by kernel_rfl) (by kernel_rfl) (fun _ _ _ h => h) (Or.inl ⟨by rfl, ?hy7x31⟩) (by first | exact trivial | assumption) ?rest7x31
  case hy7x31 =>
    intro W0 hSw
    obtain ⟨⟨s0, s1, s2, s3, s4⟩, s5, s6⟩ := hSw
    go_simp
    first | done | with_reducible rfl
  try simp only [Act.put, List.setIfInBounds_toArray, List.set_cons_zero, List.set_cons_succ]
  refine wpAnyH_take (i := 8) (oi := ({ dst := some 55, op := Go.Op.move (Go.Operand.tmp 54), type := 4, pos := "law.go:29", after := #[{ on := 7, ground := Go.Ground.data }, { on := 5, ground := Go.Ground.chain }], guard := none } : Oper)) (v := ?v8x32) rfl (by kernel_rfl) (by kernel_rfl) (by kernel_rfl) (fun _ _ _ h => h) (Or.inl ⟨by rfl, ?hy8x32⟩) (by first | exact trivial | assumption) ?rest8x32
  case hy8x32 =>
    intro W0 hSw
    obtain ⟨⟨s0, s1, s2, s3, s4⟩, s5, s6⟩ := hSw
    go_simp
    first | done | with_reducible rfl
  try simp only [Act.put, List.setIfInBounds_toArray, List.set_cons_zero, List.set_cons_succ]
  refine wpAnyH_take (i := 9) (oi := ({ dst := some 56, op := Go.Op.move (Go.Operand.tmp 5), type := 26, pos := "law.go:29", after := #[{ on := 8, ground := Go.Ground.guard }], guard := some (8, true) } : Oper)) (v := ?v9x33) rfl (by kernel_rfl) (by kernel_rfl) (by kernel_rfl) (fun _ _ _ h => h) (Or.inl ⟨by rfl, ?hy9x33⟩) (by first | exact trivial | assumption) ?rest9x33
  case hy9x33 =>
    intro W0 hSw
    obtain ⟨⟨s0, s1, s2, s3, s4⟩, s5, s6⟩ := hSw
    go_simp
    first | done | with_reducible rfl
  try simp only [Act.put, List.setIfInBounds_toArray, List.set_cons_zero, List.set_cons_succ]
  refine wpAnyH_take (i := 10) (oi := ({ dst := some 57, op := Go.Op.convert 26 9 (Go.Operand.tmp 56), type := 9, pos := "law.go:29", after := #[{ on := 9, ground := Go.Ground.data }, { on := 8, ground := Go.Ground.guard }], guard := some (8, true) } : Oper)) (v := ?v10x34) rfl (by kernel_rfl) (by kernel_rfl) (by kernel_rfl) (fun _ _ _ h => h) (Or.inl ⟨by rfl, ?hy10x34⟩) (by first | exact trivial | assumption) ?rest10x34
  case hy10x34 =>
    intro W0 hSw
    obtain ⟨⟨s0, s1, s2, s3, s4⟩, s5, s6⟩ := hSw
    go_simp
    first | done | with_reducible rfl
  try simp only [Act.put, List.setIfInBounds_toArray, List.set_cons_zero, List.set_cons_succ]
  refine wpAnyH_take (i := 11) (oi := ({ dst := some 58, op := Go.Op.move (Go.Operand.tmp 7), type := 26, pos := "law.go:29", after := #[{ on := 8, ground := Go.Ground.guard }], guard := some (8, true) } : Oper)) (v := ?v11x35) rfl (by kernel_rfl) (by kernel_rfl) (by kernel_rfl) (fun _ _ _ h => h) (Or.inl ⟨by rfl, ?hy11x35⟩) (by first | exact trivial | assumption) ?rest11x35
  case hy11x35 =>
    intro W0 hSw
    obtain ⟨⟨s0, s1, s2, s3, s4⟩, s5, s6⟩ := hSw
    go_simp
    first | done | with_reducible rfl
  try simp only [Act.put, List.setIfInBounds_toArray, List.set_cons_zero, List.set_cons_succ]
  refine wpAnyH_take (i := 12) (oi := ({ dst := some 59, op := Go.Op.convert 26 9 (Go.Operand.tmp 58), type := 9, pos := "law.go:29", after := #[{ on := 11, ground := Go.Ground.data }, { on := 8, ground := Go.Ground.guard }], guard := some (8, true) } : Oper)) (v := ?v12x36) rfl (by kernel_rfl) (by kernel_rfl) (by kernel_rfl) (fun _ _ _ h => h) (Or.inl ⟨by rfl, ?hy12x36⟩) (by first | exact trivial | assumption) ?rest12x36
  case hy12x36 =>
    intro W0 hSw
    obtain ⟨⟨s0, s1, s2, s3, s4⟩, s5, s6⟩ := hSw
    go_simp
    first | done | with_reducible rfl
  try simp only [Act.put, List.setIfInBounds_toArray, List.set_cons_zero, List.set_cons_succ]
  refine wpAnyH_take (i := 13) (oi := ({ dst := some 60, op := Go.Op.binOp Go.BinOp.eql 9 (Go.Operand.tmp 57) (Go.Operand.tmp 59) 9, type := 4, pos := "law.go:29", after := #[{ on := 10, ground := Go.Ground.data }, { on := 12, ground := Go.Ground.data }, { on := 8, ground := Go.Ground.guard }], guard := some (8, true) } : Oper)) (v := ?v13x37) rfl (by kernel_rfl) (by kernel_rfl) (by kernel_rfl) (fun _ _ _ h => h) (Or.inl ⟨by rfl, ?hy13x37⟩) (by first | exact trivial | assumption) ?rest13x37
  case hy13x37 =>
    intro W0 hSw
    obtain ⟨⟨s0, s1, s2, s3, s4⟩, s5, s6⟩ := hSw
    go_simp
    first | done | with_reducible rfl
  try simp only [Act.put, List.setIfInBounds_toArray, List.set_cons_zero, List.set_cons_succ]
  refine wpAnyH_take (i := 14) (oi := ({ dst := some 61, op := Go.Op.pick (Go.Operand.tmp 55) (Go.Operand.tmp 60) (Go.Operand.const (Go.Value.bool false)), type := 4, pos := "law.go:29", after := #[{ on := 8, ground := Go.Ground.data }, { on := 13, ground := Go.Ground.data }], guard := none } : Oper)) (v := ?v14x38) rfl (by kernel_rfl) (by kernel_rfl) (by kernel_rfl) (fun _ _ _ h => h) (Or.inl ⟨by rfl, ?hy14x38⟩) (by first | exact trivial | assumption) ?rest14x38
  case hy14x38 =>
    intro W0 hSw
    obtain ⟨⟨s0, s1, s2, s3, s4⟩, s5, s6⟩ := hSw
    go_simp
    first | done | with_reducible rfl
  try simp only [Act.put, List.setIfInBounds_toArray, List.set_cons_zero, List.set_cons_succ]
  refine wpAnyH_take (i := 15) (oi := ({ dst := some 62, op := Go.Op.move (Go.Operand.tmp 61), type := 4, pos := "law.go:29", after := #[{ on := 14, ground := Go.Ground.data }, { on := 8, ground := Go.Ground.chain }], guard := none } : Oper)) (v := ?v15x39) rfl (by kernel_rfl) (by kernel_rfl) (by kernel_rfl) (fun _ _ _ h => h) (Or.inl ⟨by rfl, ?hy15x39⟩) (by first | exact trivial | assumption) ?rest15x39
  case hy15x39 =>
    intro W0 hSw
    obtain ⟨⟨s0, s1, s2, s3, s4⟩, s5, s6⟩ := hSw
    go_simp
    first | done | with_reducible rfl
  try simp only [Act.put, List.setIfInBounds_toArray, List.set_cons_zero, List.set_cons_succ]
  refine wpAnyH_take (i := 16) (oi := ({ dst := some 63, op := Go.Op.move (Go.Operand.tmp 6), type := 28, pos := "law.go:29", after := #[{ on := 15, ground := Go.Ground.guard }], guard := some (15, true) } : Oper)) (v := ?v16x40) rfl (by kernel_rfl) (by kernel_rfl) (by kernel_rfl) (fun _ _ _ h => h) (Or.inl ⟨by rfl, ?hy16x40⟩) (by first | exact trivial | assumption) ?rest16x40
  case hy16x40 =>
    intro W0 hSw
    obtain ⟨⟨s0, s1, s2, s3, s4⟩, s5, s6⟩ := hSw
    go_simp
    first | done | with_reducible rfl
  try simp only [Act.put, List.setIfInBounds_toArray, List.set_cons_zero, List.set_cons_succ]
  refine wpAnyH_take (i := 17) (oi := ({ dst := some 64, op := Go.Op.move (Go.Operand.tmp 8), type := 28, pos := "law.go:29", after := #[{ on := 15, ground := Go.Ground.guard }], guard := some (15, true) } : Oper)) (v := ?v17x41) rfl (by kernel_rfl) (by kernel_rfl) (by kernel_rfl) (fun _ _ _ h => h) (Or.inl ⟨by rfl, ?hy17x41⟩) (by first | exact trivial | assumption) ?rest17x41
  case hy17x41 =>
    intro W0 hSw
    obtain ⟨⟨s0, s1, s2, s3, s4⟩, s5, s6⟩ := hSw
    go_simp
    first | done | with_reducible rfl
  try simp only [Act.put, List.setIfInBounds_toArray, List.set_cons_zero, List.set_cons_succ]
  refine wpAnyH_take (i := 18) (oi := ({ dst := some 65, op := Go.Op.binOp Go.BinOp.eql 28 (Go.Operand.tmp 63) (Go.Operand.tmp 64) 28, type := 4, pos := "law.go:29", after := #[{ on := 16, ground := Go.Ground.data }, { on := 17, ground := Go.Ground.data }, { on := 15, ground := Go.Ground.guard }], guard := some (15, true) } : Oper)) (v := ?v18x42) rfl (by kernel_rfl) (by kernel_rfl) (by kernel_rfl) (fun _ _ _ h => h) (Or.inl ⟨by rfl, ?hy18x42⟩) (by first | exact trivial | assumption) ?rest18x42
  case hy18x42 =>
    intro W0 hSw
    obtain ⟨⟨s0, s1, s2, s3, s4⟩, s5, s6⟩ := hSw
    go_simp
    first | done | with_reducible rfl
  try simp only [Act.put, List.setIfInBounds_toArray, List.set_cons_zero, List.set_cons_succ]
  refine wpAnyH_take (i := 19) (oi := ({ dst := some 66, op := Go.Op.pick (Go.Operand.tmp 62) (Go.Operand.tmp 65) (Go.Operand.const (Go.Value.bool false)), type := 4, pos := "law.go:29", after := #[{ on := 15, ground := Go.Ground.data }, { on := 18, ground := Go.Ground.data }], guard := none } : Oper)) (v := ?v19x43) rfl (by kernel_rfl) (by kernel_rfl) (by kernel_rfl) (fun _ _ _ h => h) (Or.inl ⟨by rfl, ?hy19x43⟩) (by first | exact trivial | assumption) ?rest19x43
  case hy19x43 =>
    intro W0 hSw
    obtain ⟨⟨s0, s1, s2, s3, s4⟩, s5, s6⟩ := hSw
    go_simp
    first | done | with_reducible rfl
  try simp only [Act.put, List.setIfInBounds_toArray, List.set_cons_zero, List.set_cons_succ]
  refine wpAnyH_take (i := 20) (oi := ({ dst := some 67, op := Go.Op.move (Go.Operand.tmp 66), type := 4, pos := "law.go:29", after := #[{ on := 19, ground := Go.Ground.data }, { on := 15, ground := Go.Ground.chain }], guard := none } : Oper)) (v := ?v20x44) rfl (by kernel_rfl) (by kernel_rfl) (by kernel_rfl) (fun _ _ _ h => h) (Or.inl ⟨by rfl, ?hy20x44⟩) (by first | exact trivial | assumption) ?rest20x44
  case hy20x44 =>
    intro W0 hSw
    obtain ⟨⟨s0, s1, s2, s3, s4⟩, s5, s6⟩ := hSw
    go_simp
    first | done | with_reducible rfl
  try simp only [Act.put, List.setIfInBounds_toArray, List.set_cons_zero, List.set_cons_succ]
  refine wpAnyH_take (i := 21) (oi := ({ dst := some 68, op := Go.Op.move (Go.Operand.tmp 13), type := 4, pos := "law.go:29", after := #[{ on := 20, ground := Go.Ground.guard }], guard := some (20, true) } : Oper)) (v := ?v21x45) rfl (by kernel_rfl) (by kernel_rfl) (by kernel_rfl) (fun _ _ _ h => h) (Or.inl ⟨by rfl, ?hy21x45⟩) (by first | exact trivial | assumption) ?rest21x45
  case hy21x45 =>
    intro W0 hSw
    obtain ⟨⟨s0, s1, s2, s3, s4⟩, s5, s6⟩ := hSw
    go_simp
    first | done | with_reducible rfl
  try simp only [Act.put, List.setIfInBounds_toArray, List.set_cons_zero, List.set_cons_succ]
  refine wpAnyH_take (i := 22) (oi := ({ dst := some 69, op := Go.Op.pick (Go.Operand.tmp 67) (Go.Operand.tmp 68) (Go.Operand.const (Go.Value.bool false)), type := 4, pos := "law.go:29", after := #[{ on := 20, ground := Go.Ground.data }, { on := 21, ground := Go.Ground.data }], guard := none } : Oper)) (v := ?v22x46) rfl (by kernel_rfl) (by kernel_rfl) (by kernel_rfl) (fun _ _ _ h => h) (Or.inl ⟨by rfl, ?hy22x46⟩) (by first | exact trivial | assumption) ?rest22x46
  case hy22x46 =>
    intro W0 hSw
    obtain ⟨⟨s0, s1, s2, s3, s4⟩, s5, s6⟩ := hSw
    go_simp
    first | done | with_reducible rfl
  try simp only [Act.put, List.setIfInBounds_toArray, List.set_cons_zero, List.set_cons_succ]
  refine wpAnyH_take (i := 23) (oi := ({ dst := some 70, op := Go.Op.move (Go.Operand.tmp 69), type := 4, pos := "law.go:29", after := #[{ on := 22, ground := Go.Ground.data }, { on := 20, ground := Go.Ground.chain }], guard := none } : Oper)) (v := ?v23x47) rfl (by kernel_rfl) (by kernel_rfl) (by kernel_rfl) (fun _ _ _ h => h) (Or.inl ⟨by rfl, ?hy23x47⟩) (by first | exact trivial | assumption) ?rest23x47
  case hy23x47 =>
    intro W0 hSw
    obtain ⟨⟨s0, s1, s2, s3, s4⟩, s5, s6⟩ := hSw
    go_simp
    first | done | with_reducible rfl
  try simp only [Act.put, List.setIfInBounds_toArray, List.set_cons_zero, List.set_cons_succ]
  refine wpAnyH_take (i := 24) (oi := ({ dst := some 71, op := Go.Op.move (Go.Operand.tmp 10), type := 28, pos := "law.go:29", after := #[{ on := 23, ground := Go.Ground.guard }], guard := some (23, true) } : Oper)) (v := ?v24x48) rfl (by kernel_rfl) (by kernel_rfl) (by kernel_rfl) (fun _ _ _ h => h) (Or.inl ⟨by rfl, ?hy24x48⟩) (by first | exact trivial | assumption) ?rest24x48
  case hy24x48 =>
    intro W0 hSw
    obtain ⟨⟨s0, s1, s2, s3, s4⟩, s5, s6⟩ := hSw
    go_simp
    first | done | with_reducible rfl
  try simp only [Act.put, List.setIfInBounds_toArray, List.set_cons_zero, List.set_cons_succ]
  refine wpAnyH_take (i := 25) (oi := ({ dst := some 72, op := Go.Op.move (Go.Operand.tmp 12), type := 28, pos := "law.go:29", after := #[{ on := 23, ground := Go.Ground.guard }], guard := some (23, true) } : Oper)) (v := ?v25x49) rfl (by kernel_rfl) (by kernel_rfl) (by kernel_rfl) (fun _ _ _ h => h) (Or.inl ⟨by rfl, ?hy25x49⟩) (by first | exact trivial | assumption) ?rest25x49
  case hy25x49 =>
    intro W0 hSw
    obtain ⟨⟨s0, s1, s2, s3, s4⟩, s5, s6⟩ := hSw
    go_simp
    first | done | with_reducible rfl
  try simp only [Act.put, List.setIfInBounds_toArray, List.set_cons_zero, List.set_cons_succ]
  refine wpAnyH_take (i := 26) (oi := ({ dst := some 73, op := Go.Op.binOp Go.BinOp.eql 28 (Go.Operand.tmp 71) (Go.Operand.tmp 72) 28, type := 4, pos := "law.go:29", after := #[{ on := 24, ground := Go.Ground.data }, { on := 25, ground := Go.Ground.data }, { on := 23, ground := Go.Ground.guard }], guard := some (23, true) } : Oper)) (v := ?v26x50) rfl (by kernel_rfl) (by kernel_rfl) (by kernel_rfl) (fun _ _ _ h => h) (Or.inl ⟨by rfl, ?hy26x50⟩) (by first | exact trivial | assumption) ?rest26x50
  case hy26x50 =>
    intro W0 hSw
    obtain ⟨⟨s0, s1, s2, s3, s4⟩, s5, s6⟩ := hSw
    go_simp
    first | done | with_reducible rfl
  try simp only [Act.put, List.setIfInBounds_toArray, List.set_cons_zero, List.set_cons_succ]
  refine wpAnyH_take (i := 27) (oi := ({ dst := some 74, op := Go.Op.pick (Go.Operand.tmp 70) (Go.Operand.tmp 73) (Go.Operand.const (Go.Value.bool false)), type := 4, pos := "law.go:29", after := #[{ on := 23, ground := Go.Ground.data }, { on := 26, ground := Go.Ground.data }], guard := none } : Oper)) (v := ?v27x51) rfl (by kernel_rfl) (by kernel_rfl) (by kernel_rfl) (fun _ _ _ h => h) (Or.inl ⟨by rfl, ?hy27x51⟩) (by first | exact trivial | assumption) ?rest27x51
  case hy27x51 =>
    intro W0 hSw
    obtain ⟨⟨s0, s1, s2, s3, s4⟩, s5, s6⟩ := hSw
    go_simp
    first | done | with_reducible rfl
  try simp only [Act.put, List.setIfInBounds_toArray, List.set_cons_zero, List.set_cons_succ]
  refine wpAnyH_take (i := 28) (oi := ({ dst := some 4, op := Go.Op.assign (Go.Operand.tmp 74), type := 4, pos := "law.go:29", after := #[{ on := 27, ground := Go.Ground.data }, { on := 23, ground := Go.Ground.chain }, { on := 0, ground := Go.Ground.phase }, { on := 1, ground := Go.Ground.phase }, { on := 2, ground := Go.Ground.phase }, { on := 3, ground := Go.Ground.phase }, { on := 4, ground := Go.Ground.phase }, { on := 5, ground := Go.Ground.phase }, { on := 6, ground := Go.Ground.phase }, { on := 7, ground := Go.Ground.phase }, { on := 8, ground := Go.Ground.phase }, { on := 9, ground := Go.Ground.phase }, { on := 10, ground := Go.Ground.phase }, { on := 11, ground := Go.Ground.phase }, { on := 12, ground := Go.Ground.phase }, { on := 13, ground := Go.Ground.phase }, { on := 14, ground := Go.Ground.phase }, { on := 15, ground := Go.Ground.phase }, { on := 16, ground := Go.Ground.phase }, { on := 17, ground := Go.Ground.phase }, { on := 18, ground := Go.Ground.phase }, { on := 19, ground := Go.Ground.phase }, { on := 20, ground := Go.Ground.phase }, { on := 21, ground := Go.Ground.phase }, { on := 22, ground := Go.Ground.phase }, { on := 23, ground := Go.Ground.phase }, { on := 24, ground := Go.Ground.phase }, { on := 25, ground := Go.Ground.phase }, { on := 26, ground := Go.Ground.phase }, { on := 27, ground := Go.Ground.phase }], guard := none } : Oper)) (v := ?v28x52) rfl (by kernel_rfl) (by kernel_rfl) (by kernel_rfl) (fun _ _ _ h => h) (Or.inl ⟨by rfl, ?hy28x52⟩) (by first | exact trivial | assumption) ?rest28x52
  case hy28x52 =>
    intro W0 hSw
    obtain ⟨⟨s0, s1, s2, s3, s4⟩, s5, s6⟩ := hSw
    go_simp
    first | done | with_reducible rfl
  try simp only [Act.put, List.setIfInBounds_toArray, List.set_cons_zero, List.set_cons_succ]
  refine wpAnyH_done (by kernel_rfl) ?_ _
  go_wp2_with fail
  go_ret
  exact ⟨rfl, HB.out⟩
set_option maxRecDepth 100000 in
set_option maxHeartbeats 16000000 in
theorem le_z_x (l : Ltr) (b : List UInt8) (A C : Option Addr) (cap1 cap2 n nb : Nat) (w : World) (hn : l.ns.length = n) (hnb : b.length = nb) (h1 : n ≤ 300) (h2 : nb ≤ 300) (hcb : nb ≤ cap2) (hr : RdI w w.heap.size A l.ns) (hrb : RdB w w.heap.size C b) (z : Ltr) (hz : z.right = true) (hbz : b = z.bytes) (hR : l.right = false) :
    Calls Try.prog 3 #[.agg #[.int .i64 l.k, .int .i64 l.f, .int .i64 l.t, .int .i64 l.x, .slice A n cap1], .slice C nb cap2] w (Ans (.bool true) w) := by
  have HX : Hid (LBx (w.alloc (lv l A n cap1)) w.heap.size l A n cap1) := Lib.hid ⟨heap_alloc_new w _, (hr.below (alloc_below w _) (Nat.le_refl _)).more (alloc_below w _).size⟩
  have HB : Hid (Below w.heap.size w (w.alloc (lv l A n cap1))) := Lib.hid (alloc_below w _)
  have HRB : Hid (∀ W, Below w.heap.size w W → RdB W W.heap.size C b) := Lib.hid fun W hb => (hrb.below hb (Nat.le_refl _)).more hb.size
  have HL := Lib.hid aliveZ_any
  have h1i : ¬ (300 : Int) < (n : Int) := by omega
  have h2i : ¬ (300 : Int) < (nb : Int) := by omega
  have HDB := Lib.hid (fun W hW => decL_of hz (by rw [← hbz]; exact hnb) hcb (by rw [← hbz]; exact HRB.out W hW) (A := C))
  have HRD := Lib.hid (fun W (hW : Below w.heap.size w W) => refDecL_of hz (by rw [← hbz]; exact hnb) hcb (by omega) (by rw [← hbz]; exact HRB.out W hW) (A := C))
  obtain ⟨m, hm⟩ : ∃ m, z.ns.length = m := ⟨_, rfl⟩
  have hm16 : m ≤ 16 := by
    have := up_len (a := -1) (by omega) (by omega) (Ltr.up hz)
    omega
  have hmi : (m : Int) ≤ 16 := by omega
  have HSM := Lib.hid (fun W A B c d hra hrb => refSameL_any z z A B m m c d hm hm (by omega) (by omega) W hra hrb)
  rw [sameL_self z] at HSM
  have HMZ := Lib.hid hm
  have HEL := Lib.hid (fun W A cap hrd => encL_no hR (encodeL_any l A n cap hn (by omega) W hrd))
  have HRE := Lib.hid (fun W A cap hrd => refEncL_no l hR A n cap hn (by omega) W hrd)
  obtain ⟨S, hS⟩ := ba_of []
  have HSS := Lib.hid hS
  have HRL := Lib.hid (fun W A cap hrd => rightL_any l.k l.f l.t l.x l.ns A n cap hn (by omega) W hrd)
  rw [show Ltr.right ⟨l.k, l.f, l.t, l.x, l.ns⟩ = false from hR] at HRL
  have HRR := Lib.hid (fun W A cap hrd => refRgt_any l.k l.f l.t l.x l.ns A n cap hn (by omega) W hrd)
  rw [show Ltr.right ⟨l.k, l.f, l.t, l.x, l.ns⟩ = false from hR] at HRR
  have hse : (S.toList == S.toList) = true := by simp
  clear hr hrb hcb h1 h2 hn hnb hR hS hz hbz hm hm16
  obtain ⟨x0, x1, x2, x3, x4⟩ := HX.out.cells
  obtain ⟨k, f, t, x, ns⟩ := l
  obtain ⟨k', f', t', x', ms⟩ := z
  unfold lv at HX HB x0 x1 x2 x3 x4
  simp only at *
  go_enter Try.func3, Try.ntmps3
  go_wp2_with (first
    | (go_at_call 8; (with_reducible refine (HEL.out _ _ _ HX.out.rd).mono ?_); rintro e w1 ⟨rfl, hb⟩
       have HB := Lib.hid (HB.out.trans (hb.mono HB.out.size))
       have HX := Lib.hid (HX.out.next hb)
       clear x0 x1 x2 x3 x4
       obtain ⟨x0, x1, x2, x3, x4⟩ := HX.out.cells
       clear hb)
    | (go_at_call 9; (with_reducible refine (HRE.out _ _ _ HX.out.rd).mono ?_); rintro e w2 ⟨rfl, hb⟩
       have HB := Lib.hid (HB.out.trans (hb.mono HB.out.size))
       have HX := Lib.hid (HX.out.next hb)
       clear x0 x1 x2 x3 x4
       obtain ⟨x0, x1, x2, x3, x4⟩ := HX.out.cells
       clear hb)
    | (go_at_call 10; (with_reducible refine (HDB.out _ HB.out).mono ?_); rintro e w3 ⟨Az, cz, rfl, ho, hb0⟩
       simp only [HMZ.out] at ho ⊢
       have hb := hb0.trans ((alloc_below w3 (.cells #[.int .i64 k', .int .i64 f', .int .i64 t', .int .i64 x', .slice Az m cz] 25)).mono hb0.size)
       have HZ : Hid (LBx (w3.alloc (.cells #[.int .i64 k', .int .i64 f', .int .i64 t', .int .i64 x', .slice Az m cz] 25)) w3.heap.size ⟨k', f', t', x', ms⟩ Az m cz) := Lib.hid ⟨heap_alloc_new w3 _, (ho.rd.below (alloc_below w3 _) (Nat.le_refl _)).more (alloc_below w3 _).size⟩
       have HB := Lib.hid (HB.out.trans (hb.mono HB.out.size))
       have HX := Lib.hid (HX.out.next hb)
       clear x0 x1 x2 x3 x4
       obtain ⟨x0, x1, x2, x3, x4⟩ := HX.out.cells
       obtain ⟨z0, z1, z2, z3, z4⟩ := HZ.out.cells
       clear ho hb hb0)
    | (go_at_call 11; (with_reducible refine (HRD.out _ HB.out).mono ?_); rintro e w4 ⟨Aw, cw, rfl, ho, hb0⟩
       simp only [HMZ.out] at ho ⊢
       have hb := hb0.trans ((alloc_below w4 (.cells #[.int .i64 k', .int .i64 f', .int .i64 t', .int .i64 x', .slice Aw m cw] 25)).mono hb0.size)
       have HW : Hid (LBx (w4.alloc (.cells #[.int .i64 k', .int .i64 f', .int .i64 t', .int .i64 x', .slice Aw m cw] 25)) w4.heap.size ⟨k', f', t', x', ms⟩ Aw m cw) := Lib.hid ⟨heap_alloc_new w4 _, (ho.rd.below (alloc_below w4 _) (Nat.le_refl _)).more (alloc_below w4 _).size⟩
       have HZ := Lib.hid (HZ.out.next hb)
       clear z0 z1 z2 z3 z4
       obtain ⟨z0, z1, z2, z3, z4⟩ := HZ.out.cells
       have HB := Lib.hid (HB.out.trans (hb.mono HB.out.size))
       have HX := Lib.hid (HX.out.next hb)
       clear x0 x1 x2 x3 x4
       obtain ⟨x0, x1, x2, x3, x4⟩ := HX.out.cells
       obtain ⟨u0, u1, u2, u3, u4⟩ := HW.out.cells
       clear ho hb hb0)
    | (go_at_call 12; (with_reducible refine (HSM.out _ _ _ _ _ HZ.out.rd HW.out.rd).mono ?_); rintro e w5 ⟨rfl, hb⟩
       have HB := Lib.hid (HB.out.trans (hb.mono HB.out.size))
       have HX := Lib.hid (HX.out.next hb)
       clear x0 x1 x2 x3 x4
       obtain ⟨x0, x1, x2, x3, x4⟩ := HX.out.cells
       clear hb)
    | fail)
  have HB := Lib.hid (HB.out.trans ((drew_below _).mono HB.out.size))
  have HX := Lib.hid (HX.out.next (drew_below _))
  refine wp_region_held_drew (S := fun _ => True) (by kernel_rfl) trivial (fun _ => ?_)
  refine wpAnyH_ready (rs := [0]) (by kernel_rfl) (by simp) ?_
  refine AllReadyH.cons (o := ({ dst := some 47, op := Go.Op.call { callee := Go.Callee.value (Go.Operand.func 7), args := #[], argTypes := #[] }, type := 4, pos := "law.go:29", after := #[], guard := none } : Oper)) rfl (fun K0 hK0 => ?_) AllReadyH.nil
  go_simp
  go_at_call 7
  refine (HL.out _).mono ?_
  rintro e w6 ⟨rfl, hb⟩
  have HB := Lib.hid (HB.out.trans (hb.mono HB.out.size))
  have HX := Lib.hid (HX.out.next hb)
  have hSS : (fun W => (W.cell? ⟨w.heap.size, 0, none⟩ = some (.int .i64 k) ∧ W.cell? ⟨w.heap.size, 1, none⟩ = some (.int .i64 f) ∧ W.cell? ⟨w.heap.size, 2, none⟩ = some (.int .i64 t) ∧ W.cell? ⟨w.heap.size, 3, none⟩ = some (.int .i64 x) ∧ W.cell? ⟨w.heap.size, 4, none⟩ = some (.slice A n cap1)) ∧ (convert 26 9 (.slice none 0 0)).run Try.prog W = .ok (.string S) W ∧ (convert 26 9 (.slice none 0 0)).run Try.prog W = .ok (.string S) W) w6 := ⟨HX.out.cells, conv_ownS (OwnB.nil _ 0) S HSS.out, conv_ownS (OwnB.nil _ 0) S HSS.out⟩
  clear hb
  try go_wp2_with fail
  refine hK0.out _ _ trivial (fun _ => ?_)
  clear hK0 K0
  try simp only [Act.put, List.setIfInBounds_toArray, List.set_cons_zero, List.set_cons_succ]
  refine wpAnyH_mono (S' := (fun W => (W.cell? ⟨w.heap.size, 0, none⟩ = some (.int .i64 k) ∧ W.cell? ⟨w.heap.size, 1, none⟩ = some (.int .i64 f) ∧ W.cell? ⟨w.heap.size, 2, none⟩ = some (.int .i64 t) ∧ W.cell? ⟨w.heap.size, 3, none⟩ = some (.int .i64 x) ∧ W.cell? ⟨w.heap.size, 4, none⟩ = some (.slice A n cap1)) ∧ (convert 26 9 (.slice none 0 0)).run Try.prog W = .ok (.string S) W ∧ (convert 26 9 (.slice none 0 0)).run Try.prog W = .ok (.string S) W)) (fun _ _ => trivial) ?_
  refine wpAnyH_take (i := 1) (oi := ({ dst := some 48, op := Go.Op.move (Go.Operand.tmp 47), type := 4, pos := "law.go:29", after := #[{ on := 0, ground := Go.Ground.data }, { on := 0, ground := Go.Ground.chain }], guard := none } : Oper)) (v := ?v1x53) rfl (by kernel_rfl) (by kernel_rfl) (by kernel_rfl) (fun _ _ _ h => h) (Or.inl ⟨by rfl, ?hy1x53⟩) (by first | exact trivial | assumption) ?rest1x53
  case hy1x53 =>
    intro W0 hSw
    obtain ⟨⟨s0, s1, s2, s3, s4⟩, s5, s6⟩ := hSw
    go_simp
    first | done | with_reducible rfl
  try simp only [Act.put, List.setIfInBounds_toArray, List.set_cons_zero, List.set_cons_succ]
  refine wpAnyH_take (i := 2) (oi := ({ dst := some 49, op := Go.Op.load 25 (Go.Operand.tmp 2), type := 25, pos := "law.go:29", after := #[{ on := 1, ground := Go.Ground.guard }], guard := some (1, true) } : Oper)) (v := ?v2x54) rfl (by kernel_rfl) (by kernel_rfl) (by kernel_rfl) (fun _ _ _ h => h) (Or.inl ⟨by rfl, ?hy2x54⟩) (by first | exact trivial | assumption) ?rest2x54
  case hy2x54 =>
    intro W0 hSw
    obtain ⟨⟨s0, s1, s2, s3, s4⟩, s5, s6⟩ := hSw
    go_simp
    first | done | with_reducible rfl
  try simp only [Act.put, List.setIfInBounds_toArray, List.set_cons_zero, List.set_cons_succ]
  refine wpAnyH_take (i := 4) (oi := ({ dst := some 51, op := Go.Op.load 25 (Go.Operand.tmp 2), type := 25, pos := "law.go:29", after := #[{ on := 1, ground := Go.Ground.guard }], guard := some (1, true) } : Oper)) (v := ?v4x55) rfl (by kernel_rfl) (by kernel_rfl) (by kernel_rfl) (fun _ _ _ h => h) (Or.inl ⟨by rfl, ?hy4x55⟩) (by first | exact trivial | assumption) ?rest4x55
  case hy4x55 =>
    intro W0 hSw
    obtain ⟨⟨s0, s1, s2, s3, s4⟩, s5, s6⟩ := hSw
    go_simp
    first | done | with_reducible rfl
  try simp only [Act.put, List.setIfInBounds_toArray, List.set_cons_zero, List.set_cons_succ]
  refine wpAnyH_ready (rs := [3]) (by kernel_rfl) (by simp) ?_
  refine AllReadyH.cons (o := ({ dst := some 50, op := Go.Op.call { callee := Go.Callee.value (Go.Operand.func 13), args := #[Go.Operand.tmp 49], argTypes := #[25] }, type := 4, pos := "law.go:29", after := #[{ on := 2, ground := Go.Ground.data }, { on := 1, ground := Go.Ground.chain }, { on := 1, ground := Go.Ground.guard }], guard := some (1, true) } : Oper)) rfl (fun K0 hK0 => ?_) AllReadyH.nil
  go_simp
  go_at_call 13
  refine (HRL.out _ _ _ HX.out.rd).mono ?_
  rintro e w7 ⟨rfl, hb⟩
  have HB := Lib.hid (HB.out.trans (hb.mono HB.out.size))
  have HX := Lib.hid (HX.out.next hb)
  have hSS : (fun W => (W.cell? ⟨w.heap.size, 0, none⟩ = some (.int .i64 k) ∧ W.cell? ⟨w.heap.size, 1, none⟩ = some (.int .i64 f) ∧ W.cell? ⟨w.heap.size, 2, none⟩ = some (.int .i64 t) ∧ W.cell? ⟨w.heap.size, 3, none⟩ = some (.int .i64 x) ∧ W.cell? ⟨w.heap.size, 4, none⟩ = some (.slice A n cap1)) ∧ (convert 26 9 (.slice none 0 0)).run Try.prog W = .ok (.string S) W ∧ (convert 26 9 (.slice none 0 0)).run Try.prog W = .ok (.string S) W) w7 := ⟨HX.out.cells, conv_ownS (OwnB.nil _ 0) S HSS.out, conv_ownS (OwnB.nil _ 0) S HSS.out⟩
  clear hb
  try go_wp2_with fail
  refine hK0.out _ _ hSS (fun _ => ?_)
  clear hK0 K0
  try simp only [Act.put, List.setIfInBounds_toArray, List.set_cons_zero, List.set_cons_succ]
  refine wpAnyH_ready (rs := [5]) (by kernel_rfl) (by simp) ?_
  refine AllReadyH.cons (o := ({ dst := some 52, op := Go.Op.call { callee := Go.Callee.value (Go.Operand.func 14), args := #[Go.Operand.tmp 51], argTypes := #[25] }, type := 4, pos := "law.go:29", after := #[{ on := 4, ground := Go.Ground.data }, { on := 3, ground := Go.Ground.chain }, { on := 1, ground := Go.Ground.guard }], guard := some (1, true) } : Oper)) rfl (fun K0 hK0 => ?_) AllReadyH.nil
  go_simp
  go_at_call 14
  refine (HRR.out _ _ _ HX.out.rd).mono ?_
  rintro e w8 ⟨rfl, hb⟩
  have HB := Lib.hid (HB.out.trans (hb.mono HB.out.size))
  have HX := Lib.hid (HX.out.next hb)
  have hSS : (fun W => (W.cell? ⟨w.heap.size, 0, none⟩ = some (.int .i64 k) ∧ W.cell? ⟨w.heap.size, 1, none⟩ = some (.int .i64 f) ∧ W.cell? ⟨w.heap.size, 2, none⟩ = some (.int .i64 t) ∧ W.cell? ⟨w.heap.size, 3, none⟩ = some (.int .i64 x) ∧ W.cell? ⟨w.heap.size, 4, none⟩ = some (.slice A n cap1)) ∧ (convert 26 9 (.slice none 0 0)).run Try.prog W = .ok (.string S) W ∧ (convert 26 9 (.slice none 0 0)).run Try.prog W = .ok (.string S) W) w8 := ⟨HX.out.cells, conv_ownS (OwnB.nil _ 0) S HSS.out, conv_ownS (OwnB.nil _ 0) S HSS.out⟩
  clear hb
  try go_wp2_with fail
  refine hK0.out _ _ hSS (fun _ => ?_)
  clear hK0 K0
  try simp only [Act.put, List.setIfInBounds_toArray, List.set_cons_zero, List.set_cons_succ]
  refine wpAnyH_take (i := 6) (oi := ({ dst := some 53, op := Go.Op.binOp Go.BinOp.eql 4 (Go.Operand.tmp 50) (Go.Operand.tmp 52) 4, type := 4, pos := "law.go:29", after := #[{ on := 3, ground := Go.Ground.data }, { on := 5, ground := Go.Ground.data }, { on := 1, ground := Go.Ground.guard }], guard := some (1, true) } : Oper)) (v := ?v6x56) rfl (by kernel_rfl) (by kernel_rfl) (by kernel_rfl) (fun _ _ _ h => h) (Or.inl ⟨by rfl, ?hy6x56⟩) (by first | exact trivial | assumption) ?rest6x56
  case hy6x56 =>
    intro W0 hSw
    obtain ⟨⟨s0, s1, s2, s3, s4⟩, s5, s6⟩ := hSw
    go_simp
    first | done | with_reducible rfl
  try simp only [Act.put, List.setIfInBounds_toArray, List.set_cons_zero, List.set_cons_succ]
  refine wpAnyH_take (i := 7) (oi := ({ dst := some 54, op := Go.Op.pick (Go.Operand.tmp 48) (Go.Operand.tmp 53) (Go.Operand.const (Go.Value.bool false)), type := 4, pos := "law.go:29", after := #[{ on := 1, ground := Go.Ground.data }, { on := 6, ground := Go.Ground.data }], guard := none } : Oper)) (v := ?v7x57) rfl (by kernel_rfl) (by kernel_rfl) (by kernel_rfl) (fun _ _ _ h => h) (Or.inl ⟨by rfl, ?hy7x57⟩) (by first | exact trivial | assumption) ?rest7x57
  case hy7x57 =>
    intro W0 hSw
    obtain ⟨⟨s0, s1, s2, s3, s4⟩, s5, s6⟩ := hSw
    go_simp
    first | done | with_reducible rfl
  try simp only [Act.put, List.setIfInBounds_toArray, List.set_cons_zero, List.set_cons_succ]
  refine wpAnyH_take (i := 8) (oi := ({ dst := some 55, op := Go.Op.move (Go.Operand.tmp 54), type := 4, pos := "law.go:29", after := #[{ on := 7, ground := Go.Ground.data }, { on := 5, ground := Go.Ground.chain }], guard := none } : Oper)) (v := ?v8x58) rfl (by kernel_rfl) (by kernel_rfl) (by kernel_rfl) (fun _ _ _ h => h) (Or.inl ⟨by rfl, ?hy8x58⟩) (by first | exact trivial | assumption) ?rest8x58
  case hy8x58 =>
    intro W0 hSw
    obtain ⟨⟨s0, s1, s2, s3, s4⟩, s5, s6⟩ := hSw
    go_simp
    first | done | with_reducible rfl
  try simp only [Act.put, List.setIfInBounds_toArray, List.set_cons_zero, List.set_cons_succ]
  refine wpAnyH_take (i := 9) (oi := ({ dst := some 56, op := Go.Op.move (Go.Operand.tmp 5), type := 26, pos := "law.go:29", after := #[{ on := 8, ground := Go.Ground.guard }], guard := some (8, true) } : Oper)) (v := ?v9x59) rfl (by kernel_rfl) (by kernel_rfl) (by kernel_rfl) (fun _ _ _ h => h) (Or.inl ⟨by rfl, ?hy9x59⟩) (by first | exact trivial | assumption) ?rest9x59
  case hy9x59 =>
    intro W0 hSw
    obtain ⟨⟨s0, s1, s2, s3, s4⟩, s5, s6⟩ := hSw
    go_simp
    first | done | with_reducible rfl
  try simp only [Act.put, List.setIfInBounds_toArray, List.set_cons_zero, List.set_cons_succ]
  refine wpAnyH_take (i := 10) (oi := ({ dst := some 57, op := Go.Op.convert 26 9 (Go.Operand.tmp 56), type := 9, pos := "law.go:29", after := #[{ on := 9, ground := Go.Ground.data }, { on := 8, ground := Go.Ground.guard }], guard := some (8, true) } : Oper)) (v := ?v10x60) rfl (by kernel_rfl) (by kernel_rfl) (by kernel_rfl) (fun _ _ _ h => h) (Or.inl ⟨by rfl, ?hy10x60⟩) (by first | exact trivial | assumption) ?rest10x60
  case hy10x60 =>
    intro W0 hSw
    obtain ⟨⟨s0, s1, s2, s3, s4⟩, s5, s6⟩ := hSw
    go_simp
    first | done | with_reducible rfl
  try simp only [Act.put, List.setIfInBounds_toArray, List.set_cons_zero, List.set_cons_succ]
  refine wpAnyH_take (i := 11) (oi := ({ dst := some 58, op := Go.Op.move (Go.Operand.tmp 7), type := 26, pos := "law.go:29", after := #[{ on := 8, ground := Go.Ground.guard }], guard := some (8, true) } : Oper)) (v := ?v11x61) rfl (by kernel_rfl) (by kernel_rfl) (by kernel_rfl) (fun _ _ _ h => h) (Or.inl ⟨by rfl, ?hy11x61⟩) (by first | exact trivial | assumption) ?rest11x61
  case hy11x61 =>
    intro W0 hSw
    obtain ⟨⟨s0, s1, s2, s3, s4⟩, s5, s6⟩ := hSw
    go_simp
    first | done | with_reducible rfl
  try simp only [Act.put, List.setIfInBounds_toArray, List.set_cons_zero, List.set_cons_succ]
  refine wpAnyH_take (i := 12) (oi := ({ dst := some 59, op := Go.Op.convert 26 9 (Go.Operand.tmp 58), type := 9, pos := "law.go:29", after := #[{ on := 11, ground := Go.Ground.data }, { on := 8, ground := Go.Ground.guard }], guard := some (8, true) } : Oper)) (v := ?v12x62) rfl (by kernel_rfl) (by kernel_rfl) (by kernel_rfl) (fun _ _ _ h => h) (Or.inl ⟨by rfl, ?hy12x62⟩) (by first | exact trivial | assumption) ?rest12x62
  case hy12x62 =>
    intro W0 hSw
    obtain ⟨⟨s0, s1, s2, s3, s4⟩, s5, s6⟩ := hSw
    go_simp
    first | done | with_reducible rfl
  try simp only [Act.put, List.setIfInBounds_toArray, List.set_cons_zero, List.set_cons_succ]
  refine wpAnyH_take (i := 13) (oi := ({ dst := some 60, op := Go.Op.binOp Go.BinOp.eql 9 (Go.Operand.tmp 57) (Go.Operand.tmp 59) 9, type := 4, pos := "law.go:29", after := #[{ on := 10, ground := Go.Ground.data }, { on := 12, ground := Go.Ground.data }, { on := 8, ground := Go.Ground.guard }], guard := some (8, true) } : Oper)) (v := ?v13x63) rfl (by kernel_rfl) (by kernel_rfl) (by kernel_rfl) (fun _ _ _ h => h) (Or.inl ⟨by rfl, ?hy13x63⟩) (by first | exact trivial | assumption) ?rest13x63
  case hy13x63 =>
    intro W0 hSw
    obtain ⟨⟨s0, s1, s2, s3, s4⟩, s5, s6⟩ := hSw
    go_simp
    first | done | with_reducible rfl
  try simp only [Act.put, List.setIfInBounds_toArray, List.set_cons_zero, List.set_cons_succ]
  refine wpAnyH_take (i := 14) (oi := ({ dst := some 61, op := Go.Op.pick (Go.Operand.tmp 55) (Go.Operand.tmp 60) (Go.Operand.const (Go.Value.bool false)), type := 4, pos := "law.go:29", after := #[{ on := 8, ground := Go.Ground.data }, { on := 13, ground := Go.Ground.data }], guard := none } : Oper)) (v := ?v14x64) rfl (by kernel_rfl) (by kernel_rfl) (by kernel_rfl) (fun _ _ _ h => h) (Or.inl ⟨by rfl, ?hy14x64⟩) (by first | exact trivial | assumption) ?rest14x64
  case hy14x64 =>
    intro W0 hSw
    obtain ⟨⟨s0, s1, s2, s3, s4⟩, s5, s6⟩ := hSw
    go_simp
    first | done | with_reducible rfl
  try simp only [Act.put, List.setIfInBounds_toArray, List.set_cons_zero, List.set_cons_succ]
  refine wpAnyH_take (i := 15) (oi := ({ dst := some 62, op := Go.Op.move (Go.Operand.tmp 61), type := 4, pos := "law.go:29", after := #[{ on := 14, ground := Go.Ground.data }, { on := 8, ground := Go.Ground.chain }], guard := none } : Oper)) (v := ?v15x65) rfl (by kernel_rfl) (by kernel_rfl) (by kernel_rfl) (fun _ _ _ h => h) (Or.inl ⟨by rfl, ?hy15x65⟩) (by first | exact trivial | assumption) ?rest15x65
  case hy15x65 =>
    intro W0 hSw
    obtain ⟨⟨s0, s1, s2, s3, s4⟩, s5, s6⟩ := hSw
    go_simp
    first | done | with_reducible rfl
  try simp only [Act.put, List.setIfInBounds_toArray, List.set_cons_zero, List.set_cons_succ]
  refine wpAnyH_take (i := 16) (oi := ({ dst := some 63, op := Go.Op.move (Go.Operand.tmp 6), type := 28, pos := "law.go:29", after := #[{ on := 15, ground := Go.Ground.guard }], guard := some (15, true) } : Oper)) (v := ?v16x66) rfl (by kernel_rfl) (by kernel_rfl) (by kernel_rfl) (fun _ _ _ h => h) (Or.inl ⟨by rfl, ?hy16x66⟩) (by first | exact trivial | assumption) ?rest16x66
  case hy16x66 =>
    intro W0 hSw
    obtain ⟨⟨s0, s1, s2, s3, s4⟩, s5, s6⟩ := hSw
    go_simp
    first | done | with_reducible rfl
  try simp only [Act.put, List.setIfInBounds_toArray, List.set_cons_zero, List.set_cons_succ]
  refine wpAnyH_take (i := 17) (oi := ({ dst := some 64, op := Go.Op.move (Go.Operand.tmp 8), type := 28, pos := "law.go:29", after := #[{ on := 15, ground := Go.Ground.guard }], guard := some (15, true) } : Oper)) (v := ?v17x67) rfl (by kernel_rfl) (by kernel_rfl) (by kernel_rfl) (fun _ _ _ h => h) (Or.inl ⟨by rfl, ?hy17x67⟩) (by first | exact trivial | assumption) ?rest17x67
  case hy17x67 =>
    intro W0 hSw
    obtain ⟨⟨s0, s1, s2, s3, s4⟩, s5, s6⟩ := hSw
    go_simp
    first | done | with_reducible rfl
  try simp only [Act.put, List.setIfInBounds_toArray, List.set_cons_zero, List.set_cons_succ]
  refine wpAnyH_take (i := 18) (oi := ({ dst := some 65, op := Go.Op.binOp Go.BinOp.eql 28 (Go.Operand.tmp 63) (Go.Operand.tmp 64) 28, type := 4, pos := "law.go:29", after := #[{ on := 16, ground := Go.Ground.data }, { on := 17, ground := Go.Ground.data }, { on := 15, ground := Go.Ground.guard }], guard := some (15, true) } : Oper)) (v := ?v18x68) rfl (by kernel_rfl) (by kernel_rfl) (by kernel_rfl) (fun _ _ _ h => h) (Or.inl ⟨by rfl, ?hy18x68⟩) (by first | exact trivial | assumption) ?rest18x68
  case hy18x68 =>
    intro W0 hSw
    obtain ⟨⟨s0, s1, s2, s3, s4⟩, s5, s6⟩ := hSw
    go_simp
    first | done | with_reducible rfl
  try simp only [Act.put, List.setIfInBounds_toArray, List.set_cons_zero, List.set_cons_succ]
  refine wpAnyH_take (i := 19) (oi := ({ dst := some 66, op := Go.Op.pick (Go.Operand.tmp 62) (Go.Operand.tmp 65) (Go.Operand.const (Go.Value.bool false)), type := 4, pos := "law.go:29", after := #[{ on := 15, ground := Go.Ground.data }, { on := 18, ground := Go.Ground.data }], guard := none } : Oper)) (v := ?v19x69) rfl (by kernel_rfl) (by kernel_rfl) (by kernel_rfl) (fun _ _ _ h => h) (Or.inl ⟨by rfl, ?hy19x69⟩) (by first | exact trivial | assumption) ?rest19x69
  case hy19x69 =>
    intro W0 hSw
    obtain ⟨⟨s0, s1, s2, s3, s4⟩, s5, s6⟩ := hSw
    go_simp
    first | done | with_reducible rfl
  try simp only [Act.put, List.setIfInBounds_toArray, List.set_cons_zero, List.set_cons_succ]
  refine wpAnyH_take (i := 20) (oi := ({ dst := some 67, op := Go.Op.move (Go.Operand.tmp 66), type := 4, pos := "law.go:29", after := #[{ on := 19, ground := Go.Ground.data }, { on := 15, ground := Go.Ground.chain }], guard := none } : Oper)) (v := ?v20x70) rfl (by kernel_rfl) (by kernel_rfl) (by kernel_rfl) (fun _ _ _ h => h) (Or.inl ⟨by rfl, ?hy20x70⟩) (by first | exact trivial | assumption) ?rest20x70
  case hy20x70 =>
    intro W0 hSw
    obtain ⟨⟨s0, s1, s2, s3, s4⟩, s5, s6⟩ := hSw
    go_simp
    first | done | with_reducible rfl
  try simp only [Act.put, List.setIfInBounds_toArray, List.set_cons_zero, List.set_cons_succ]
  refine wpAnyH_take (i := 21) (oi := ({ dst := some 68, op := Go.Op.move (Go.Operand.tmp 13), type := 4, pos := "law.go:29", after := #[{ on := 20, ground := Go.Ground.guard }], guard := some (20, true) } : Oper)) (v := ?v21x71) rfl (by kernel_rfl) (by kernel_rfl) (by kernel_rfl) (fun _ _ _ h => h) (Or.inl ⟨by rfl, ?hy21x71⟩) (by first | exact trivial | assumption) ?rest21x71
  case hy21x71 =>
    intro W0 hSw
    obtain ⟨⟨s0, s1, s2, s3, s4⟩, s5, s6⟩ := hSw
    go_simp
    first | done | with_reducible rfl
  try simp only [Act.put, List.setIfInBounds_toArray, List.set_cons_zero, List.set_cons_succ]
  refine wpAnyH_take (i := 22) (oi := ({ dst := some 69, op := Go.Op.pick (Go.Operand.tmp 67) (Go.Operand.tmp 68) (Go.Operand.const (Go.Value.bool false)), type := 4, pos := "law.go:29", after := #[{ on := 20, ground := Go.Ground.data }, { on := 21, ground := Go.Ground.data }], guard := none } : Oper)) (v := ?v22x72) rfl (by kernel_rfl) (by kernel_rfl) (by kernel_rfl) (fun _ _ _ h => h) (Or.inl ⟨by rfl, ?hy22x72⟩) (by first | exact trivial | assumption) ?rest22x72
  case hy22x72 =>
    intro W0 hSw
    obtain ⟨⟨s0, s1, s2, s3, s4⟩, s5, s6⟩ := hSw
    go_simp
    first | done | with_reducible rfl
  try simp only [Act.put, List.setIfInBounds_toArray, List.set_cons_zero, List.set_cons_succ]
  refine wpAnyH_take (i := 23) (oi := ({ dst := some 70, op := Go.Op.move (Go.Operand.tmp 69), type := 4, pos := "law.go:29", after := #[{ on := 22, ground := Go.Ground.data }, { on := 20, ground := Go.Ground.chain }], guard := none } : Oper)) (v := ?v23x73) rfl (by kernel_rfl) (by kernel_rfl) (by kernel_rfl) (fun _ _ _ h => h) (Or.inl ⟨by rfl, ?hy23x73⟩) (by first | exact trivial | assumption) ?rest23x73
  case hy23x73 =>
    intro W0 hSw
    obtain ⟨⟨s0, s1, s2, s3, s4⟩, s5, s6⟩ := hSw
    go_simp
    first | done | with_reducible rfl
  try simp only [Act.put, List.setIfInBounds_toArray, List.set_cons_zero, List.set_cons_succ]
  refine wpAnyH_take (i := 24) (oi := ({ dst := some 71, op := Go.Op.move (Go.Operand.tmp 10), type := 28, pos := "law.go:29", after := #[{ on := 23, ground := Go.Ground.guard }], guard := some (23, true) } : Oper)) (v := ?v24x74) rfl (by kernel_rfl) (by kernel_rfl) (by kernel_rfl) (fun _ _ _ h => h) (Or.inl ⟨by rfl, ?hy24x74⟩) (by first | exact trivial | assumption) ?rest24x74
  case hy24x74 =>
    intro W0 hSw
    obtain ⟨⟨s0, s1, s2, s3, s4⟩, s5, s6⟩ := hSw
    go_simp
    first | done | with_reducible rfl
  try simp only [Act.put, List.setIfInBounds_toArray, List.set_cons_zero, List.set_cons_succ]
  refine wpAnyH_take (i := 25) (oi := ({ dst := some 72, op := Go.Op.move (Go.Operand.tmp 12), type := 28, pos := "law.go:29", after := #[{ on := 23, ground := Go.Ground.guard }], guard := some (23, true) } : Oper)) (v := ?v25x75) rfl (by kernel_rfl) (by kernel_rfl) (by kernel_rfl) (fun _ _ _ h => h) (Or.inl ⟨by rfl, ?hy25x75⟩) (by first | exact trivial | assumption) ?rest25x75
  case hy25x75 =>
    intro W0 hSw
    obtain ⟨⟨s0, s1, s2, s3, s4⟩, s5, s6⟩ := hSw
    go_simp
    first | done | with_reducible rfl
  try simp only [Act.put, List.setIfInBounds_toArray, List.set_cons_zero, List.set_cons_succ]
  refine wpAnyH_take (i := 26) (oi := ({ dst := some 73, op := Go.Op.binOp Go.BinOp.eql 28 (Go.Operand.tmp 71) (Go.Operand.tmp 72) 28, type := 4, pos := "law.go:29", after := #[{ on := 24, ground := Go.Ground.data }, { on := 25, ground := Go.Ground.data }, { on := 23, ground := Go.Ground.guard }], guard := some (23, true) } : Oper)) (v := ?v26x76) rfl (by kernel_rfl) (by kernel_rfl) (by kernel_rfl) (fun _ _ _ h => h) (Or.inl ⟨by rfl, ?hy26x76⟩) (by first | exact trivial | assumption) ?rest26x76
  case hy26x76 =>
    intro W0 hSw
    obtain ⟨⟨s0, s1, s2, s3, s4⟩, s5, s6⟩ := hSw
    go_simp
    first | done | with_reducible rfl
  try simp only [Act.put, List.setIfInBounds_toArray, List.set_cons_zero, List.set_cons_succ]
  refine wpAnyH_take (i := 27) (oi := ({ dst := some 74, op := Go.Op.pick (Go.Operand.tmp 70) (Go.Operand.tmp 73) (Go.Operand.const (Go.Value.bool false)), type := 4, pos := "law.go:29", after := #[{ on := 23, ground := Go.Ground.data }, { on := 26, ground := Go.Ground.data }], guard := none } : Oper)) (v := ?v27x77) rfl (by kernel_rfl) (by kernel_rfl) (by kernel_rfl) (fun _ _ _ h => h) (Or.inl ⟨by rfl, ?hy27x77⟩) (by first | exact trivial | assumption) ?rest27x77
  case hy27x77 =>
    intro W0 hSw
    obtain ⟨⟨s0, s1, s2, s3, s4⟩, s5, s6⟩ := hSw
    go_simp
    first | done | with_reducible rfl
  try simp only [Act.put, List.setIfInBounds_toArray, List.set_cons_zero, List.set_cons_succ]
  refine wpAnyH_take (i := 28) (oi := ({ dst := some 4, op := Go.Op.assign (Go.Operand.tmp 74), type := 4, pos := "law.go:29", after := #[{ on := 27, ground := Go.Ground.data }, { on := 23, ground := Go.Ground.chain }, { on := 0, ground := Go.Ground.phase }, { on := 1, ground := Go.Ground.phase }, { on := 2, ground := Go.Ground.phase }, { on := 3, ground := Go.Ground.phase }, { on := 4, ground := Go.Ground.phase }, { on := 5, ground := Go.Ground.phase }, { on := 6, ground := Go.Ground.phase }, { on := 7, ground := Go.Ground.phase }, { on := 8, ground := Go.Ground.phase }, { on := 9, ground := Go.Ground.phase }, { on := 10, ground := Go.Ground.phase }, { on := 11, ground := Go.Ground.phase }, { on := 12, ground := Go.Ground.phase }, { on := 13, ground := Go.Ground.phase }, { on := 14, ground := Go.Ground.phase }, { on := 15, ground := Go.Ground.phase }, { on := 16, ground := Go.Ground.phase }, { on := 17, ground := Go.Ground.phase }, { on := 18, ground := Go.Ground.phase }, { on := 19, ground := Go.Ground.phase }, { on := 20, ground := Go.Ground.phase }, { on := 21, ground := Go.Ground.phase }, { on := 22, ground := Go.Ground.phase }, { on := 23, ground := Go.Ground.phase }, { on := 24, ground := Go.Ground.phase }, { on := 25, ground := Go.Ground.phase }, { on := 26, ground := Go.Ground.phase }, { on := 27, ground := Go.Ground.phase }], guard := none } : Oper)) (v := ?v28x78) rfl (by kernel_rfl) (by kernel_rfl) (by kernel_rfl) (fun _ _ _ h => h) (Or.inl ⟨by rfl, ?hy28x78⟩) (by first | exact trivial | assumption) ?rest28x78
  case hy28x78 =>
    intro W0 hSw
    obtain ⟨⟨s0, s1, s2, s3, s4⟩, s5, s6⟩ := hSw
    go_simp
    first | done | with_reducible rfl
  try simp only [Act.put, List.setIfInBounds_toArray, List.set_cons_zero, List.set_cons_succ]
  refine wpAnyH_done (by kernel_rfl) ?_ _
  go_wp2_with fail
  go_ret
  exact ⟨rfl, HB.out⟩
set_option maxRecDepth 100000 in
set_option maxHeartbeats 16000000 in
theorem le_z_y (l : Ltr) (b : List UInt8) (A C : Option Addr) (cap1 cap2 n nb : Nat) (w : World) (hn : l.ns.length = n) (hnb : b.length = nb) (h1 : n ≤ 300) (h2 : nb ≤ 300) (hcb : nb ≤ cap2) (hr : RdI w w.heap.size A l.ns) (hrb : RdB w w.heap.size C b) (z : Ltr) (hz : z.right = true) (hbz : b = z.bytes) (hR : l.right = true) :
    Calls Try.prog 3 #[.agg #[.int .i64 l.k, .int .i64 l.f, .int .i64 l.t, .int .i64 l.x, .slice A n cap1], .slice C nb cap2] w (Ans (.bool true) w) := by
  have HX : Hid (LBx (w.alloc (lv l A n cap1)) w.heap.size l A n cap1) := Lib.hid ⟨heap_alloc_new w _, (hr.below (alloc_below w _) (Nat.le_refl _)).more (alloc_below w _).size⟩
  have HB : Hid (Below w.heap.size w (w.alloc (lv l A n cap1))) := Lib.hid (alloc_below w _)
  have HRB : Hid (∀ W, Below w.heap.size w W → RdB W W.heap.size C b) := Lib.hid fun W hb => (hrb.below hb (Nat.le_refl _)).more hb.size
  have HL := Lib.hid aliveZ_any
  have h1i : ¬ (300 : Int) < (n : Int) := by omega
  have h2i : ¬ (300 : Int) < (nb : Int) := by omega
  have HDB := Lib.hid (fun W hW => decL_of hz (by rw [← hbz]; exact hnb) hcb (by rw [← hbz]; exact HRB.out W hW) (A := C))
  have HRD := Lib.hid (fun W (hW : Below w.heap.size w W) => refDecL_of hz (by rw [← hbz]; exact hnb) hcb (by omega) (by rw [← hbz]; exact HRB.out W hW) (A := C))
  obtain ⟨m, hm⟩ : ∃ m, z.ns.length = m := ⟨_, rfl⟩
  have hm16 : m ≤ 16 := by
    have := up_len (a := -1) (by omega) (by omega) (Ltr.up hz)
    omega
  have hmi : (m : Int) ≤ 16 := by omega
  have HSM := Lib.hid (fun W A B c d hra hrb => refSameL_any z z A B m m c d hm hm (by omega) (by omega) W hra hrb)
  rw [sameL_self z] at HSM
  have HMZ := Lib.hid hm
  have HEL := Lib.hid (fun W A cap hrd => encL_yes hR (encodeL_any l A n cap hn (by omega) W hrd))
  have HRE := Lib.hid (fun W A cap hrd => refEncL_yes l hR A n cap hn W hrd)
  obtain ⟨S, hS⟩ := ba_of l.bytes
  have HSS := Lib.hid hS
  have HRL := Lib.hid (fun W A cap hrd => rightL_any l.k l.f l.t l.x l.ns A n cap hn (by omega) W hrd)
  rw [show Ltr.right ⟨l.k, l.f, l.t, l.x, l.ns⟩ = true from hR] at HRL
  have HRR := Lib.hid (fun W A cap hrd => refRgt_any l.k l.f l.t l.x l.ns A n cap hn (by omega) W hrd)
  rw [show Ltr.right ⟨l.k, l.f, l.t, l.x, l.ns⟩ = true from hR] at HRR
  have hse : (S.toList == S.toList) = true := by simp
  clear hr hrb hcb h1 h2 hn hnb hR hS hz hbz hm hm16
  obtain ⟨x0, x1, x2, x3, x4⟩ := HX.out.cells
  obtain ⟨k, f, t, x, ns⟩ := l
  obtain ⟨k', f', t', x', ms⟩ := z
  unfold lv at HX HB x0 x1 x2 x3 x4
  simp only at *
  go_enter Try.func3, Try.ntmps3
  go_wp2_with (first
    | (go_at_call 8; (with_reducible refine (HEL.out _ _ _ HX.out.rd).mono ?_); rintro e w1 ⟨vx, rfl, ho, hb⟩
       obtain ⟨XA, xc, hvx, _⟩ := ho.2
       obtain ⟨xn, hxn⟩ : ∃ xn, (Ltr.bytes ⟨k, f, t, x, ns⟩).length = xn := ⟨_, rfl⟩
       rw [hxn] at hvx
       subst hvx
       have HOA := Lib.hid ho
       have HB := Lib.hid (HB.out.trans (hb.mono HB.out.size))
       have HX := Lib.hid (HX.out.next hb)
       clear x0 x1 x2 x3 x4
       obtain ⟨x0, x1, x2, x3, x4⟩ := HX.out.cells
       clear ho hb hxn)
    | (go_at_call 9; (with_reducible refine (HRE.out _ _ _ HX.out.rd).mono ?_); rintro e w2 ⟨vy, rfl, ho, hb⟩
       obtain ⟨YA, yc, hvy, _⟩ := ho.2
       obtain ⟨yn, hyn⟩ : ∃ yn, (Ltr.bytes ⟨k, f, t, x, ns⟩).length = yn := ⟨_, rfl⟩
       rw [hyn] at hvy
       subst hvy
       have HOB := Lib.hid ho
       have HOA := Lib.hid (HOA.out.below hb)
       have HB := Lib.hid (HB.out.trans (hb.mono HB.out.size))
       have HX := Lib.hid (HX.out.next hb)
       clear x0 x1 x2 x3 x4
       obtain ⟨x0, x1, x2, x3, x4⟩ := HX.out.cells
       clear ho hb hyn)
    | (go_at_call 10; (with_reducible refine (HDB.out _ HB.out).mono ?_); rintro e w3 ⟨Az, cz, rfl, ho, hb0⟩
       simp only [HMZ.out] at ho ⊢
       have hb := hb0.trans ((alloc_below w3 (.cells #[.int .i64 k', .int .i64 f', .int .i64 t', .int .i64 x', .slice Az m cz] 25)).mono hb0.size)
       have HZ : Hid (LBx (w3.alloc (.cells #[.int .i64 k', .int .i64 f', .int .i64 t', .int .i64 x', .slice Az m cz] 25)) w3.heap.size ⟨k', f', t', x', ms⟩ Az m cz) := Lib.hid ⟨heap_alloc_new w3 _, (ho.rd.below (alloc_below w3 _) (Nat.le_refl _)).more (alloc_below w3 _).size⟩
       have HOA := Lib.hid (HOA.out.below hb)
       have HOB := Lib.hid (HOB.out.below hb)
       have HB := Lib.hid (HB.out.trans (hb.mono HB.out.size))
       have HX := Lib.hid (HX.out.next hb)
       clear x0 x1 x2 x3 x4
       obtain ⟨x0, x1, x2, x3, x4⟩ := HX.out.cells
       obtain ⟨z0, z1, z2, z3, z4⟩ := HZ.out.cells
       clear ho hb hb0)
    | (go_at_call 11; (with_reducible refine (HRD.out _ HB.out).mono ?_); rintro e w4 ⟨Aw, cw, rfl, ho, hb0⟩
       simp only [HMZ.out] at ho ⊢
       have hb := hb0.trans ((alloc_below w4 (.cells #[.int .i64 k', .int .i64 f', .int .i64 t', .int .i64 x', .slice Aw m cw] 25)).mono hb0.size)
       have HW : Hid (LBx (w4.alloc (.cells #[.int .i64 k', .int .i64 f', .int .i64 t', .int .i64 x', .slice Aw m cw] 25)) w4.heap.size ⟨k', f', t', x', ms⟩ Aw m cw) := Lib.hid ⟨heap_alloc_new w4 _, (ho.rd.below (alloc_below w4 _) (Nat.le_refl _)).more (alloc_below w4 _).size⟩
       have HZ := Lib.hid (HZ.out.next hb)
       clear z0 z1 z2 z3 z4
       obtain ⟨z0, z1, z2, z3, z4⟩ := HZ.out.cells
       have HOA := Lib.hid (HOA.out.below hb)
       have HOB := Lib.hid (HOB.out.below hb)
       have HB := Lib.hid (HB.out.trans (hb.mono HB.out.size))
       have HX := Lib.hid (HX.out.next hb)
       clear x0 x1 x2 x3 x4
       obtain ⟨x0, x1, x2, x3, x4⟩ := HX.out.cells
       obtain ⟨u0, u1, u2, u3, u4⟩ := HW.out.cells
       clear ho hb hb0)
    | (go_at_call 12; (with_reducible refine (HSM.out _ _ _ _ _ HZ.out.rd HW.out.rd).mono ?_); rintro e w5 ⟨rfl, hb⟩
       have HOA := Lib.hid (HOA.out.below hb)
       have HOB := Lib.hid (HOB.out.below hb)
       have HB := Lib.hid (HB.out.trans (hb.mono HB.out.size))
       have HX := Lib.hid (HX.out.next hb)
       clear x0 x1 x2 x3 x4
       obtain ⟨x0, x1, x2, x3, x4⟩ := HX.out.cells
       clear hb)
    | fail)
  have HB := Lib.hid (HB.out.trans ((drew_below _).mono HB.out.size))
  have HX := Lib.hid (HX.out.next (drew_below _))
  have HOA := Lib.hid (HOA.out.below (drew_below _))
  have HOB := Lib.hid (HOB.out.below (drew_below _))
  refine wp_region_held_drew (S := fun _ => True) (by kernel_rfl) trivial (fun _ => ?_)
  refine wpAnyH_ready (rs := [0]) (by kernel_rfl) (by simp) ?_
  refine AllReadyH.cons (o := ({ dst := some 47, op := Go.Op.call { callee := Go.Callee.value (Go.Operand.func 7), args := #[], argTypes := #[] }, type := 4, pos := "law.go:29", after := #[], guard := none } : Oper)) rfl (fun K0 hK0 => ?_) AllReadyH.nil
  go_simp
  go_at_call 7
  refine (HL.out _).mono ?_
  rintro e w6 ⟨rfl, hb⟩
  have HB := Lib.hid (HB.out.trans (hb.mono HB.out.size))
  have HX := Lib.hid (HX.out.next hb)
  have HOA := Lib.hid (HOA.out.below hb)
  have HOB := Lib.hid (HOB.out.below hb)
  have hSS : (fun W => (W.cell? ⟨w.heap.size, 0, none⟩ = some (.int .i64 k) ∧ W.cell? ⟨w.heap.size, 1, none⟩ = some (.int .i64 f) ∧ W.cell? ⟨w.heap.size, 2, none⟩ = some (.int .i64 t) ∧ W.cell? ⟨w.heap.size, 3, none⟩ = some (.int .i64 x) ∧ W.cell? ⟨w.heap.size, 4, none⟩ = some (.slice A n cap1)) ∧ (convert 26 9 (.slice XA xn xc)).run Try.prog W = .ok (.string S) W ∧ (convert 26 9 (.slice YA yn yc)).run Try.prog W = .ok (.string S) W) w6 := ⟨HX.out.cells, conv_ownS HOA.out S HSS.out, conv_ownS HOB.out S HSS.out⟩
  clear hb
  try go_wp2_with fail
  refine hK0.out _ _ trivial (fun _ => ?_)
  clear hK0 K0
  try simp only [Act.put, List.setIfInBounds_toArray, List.set_cons_zero, List.set_cons_succ]
  refine wpAnyH_mono (S' := (fun W => (W.cell? ⟨w.heap.size, 0, none⟩ = some (.int .i64 k) ∧ W.cell? ⟨w.heap.size, 1, none⟩ = some (.int .i64 f) ∧ W.cell? ⟨w.heap.size, 2, none⟩ = some (.int .i64 t) ∧ W.cell? ⟨w.heap.size, 3, none⟩ = some (.int .i64 x) ∧ W.cell? ⟨w.heap.size, 4, none⟩ = some (.slice A n cap1)) ∧ (convert 26 9 (.slice XA xn xc)).run Try.prog W = .ok (.string S) W ∧ (convert 26 9 (.slice YA yn yc)).run Try.prog W = .ok (.string S) W)) (fun _ _ => trivial) ?_
  refine wpAnyH_take (i := 1) (oi := ({ dst := some 48, op := Go.Op.move (Go.Operand.tmp 47), type := 4, pos := "law.go:29", after := #[{ on := 0, ground := Go.Ground.data }, { on := 0, ground := Go.Ground.chain }], guard := none } : Oper)) (v := ?v1x79) rfl (by kernel_rfl) (by kernel_rfl) (by kernel_rfl) (fun _ _ _ h => h) (Or.inl ⟨by rfl, ?hy1x79⟩) (by first | exact trivial | assumption) ?rest1x79
  case hy1x79 =>
    intro W0 hSw
    obtain ⟨⟨s0, s1, s2, s3, s4⟩, s5, s6⟩ := hSw
    go_simp
    first | done | with_reducible rfl
  try simp only [Act.put, List.setIfInBounds_toArray, List.set_cons_zero, List.set_cons_succ]
  refine wpAnyH_take (i := 2) (oi := ({ dst := some 49, op := Go.Op.load 25 (Go.Operand.tmp 2), type := 25, pos := "law.go:29", after := #[{ on := 1, ground := Go.Ground.guard }], guard := some (1, true) } : Oper)) (v := ?v2x80) rfl (by kernel_rfl) (by kernel_rfl) (by kernel_rfl) (fun _ _ _ h => h) (Or.inl ⟨by rfl, ?hy2x80⟩) (by first | exact trivial | assumption) ?rest2x80
  case hy2x80 =>
    intro W0 hSw
    obtain ⟨⟨s0, s1, s2, s3, s4⟩, s5, s6⟩ := hSw
    go_simp
    first | done | with_reducible rfl
  try simp only [Act.put, List.setIfInBounds_toArray, List.set_cons_zero, List.set_cons_succ]
  refine wpAnyH_take (i := 4) (oi := ({ dst := some 51, op := Go.Op.load 25 (Go.Operand.tmp 2), type := 25, pos := "law.go:29", after := #[{ on := 1, ground := Go.Ground.guard }], guard := some (1, true) } : Oper)) (v := ?v4x81) rfl (by kernel_rfl) (by kernel_rfl) (by kernel_rfl) (fun _ _ _ h => h) (Or.inl ⟨by rfl, ?hy4x81⟩) (by first | exact trivial | assumption) ?rest4x81
  case hy4x81 =>
    intro W0 hSw
    obtain ⟨⟨s0, s1, s2, s3, s4⟩, s5, s6⟩ := hSw
    go_simp
    first | done | with_reducible rfl
  try simp only [Act.put, List.setIfInBounds_toArray, List.set_cons_zero, List.set_cons_succ]
  refine wpAnyH_ready (rs := [3]) (by kernel_rfl) (by simp) ?_
  refine AllReadyH.cons (o := ({ dst := some 50, op := Go.Op.call { callee := Go.Callee.value (Go.Operand.func 13), args := #[Go.Operand.tmp 49], argTypes := #[25] }, type := 4, pos := "law.go:29", after := #[{ on := 2, ground := Go.Ground.data }, { on := 1, ground := Go.Ground.chain }, { on := 1, ground := Go.Ground.guard }], guard := some (1, true) } : Oper)) rfl (fun K0 hK0 => ?_) AllReadyH.nil
  go_simp
  go_at_call 13
  refine (HRL.out _ _ _ HX.out.rd).mono ?_
  rintro e w7 ⟨rfl, hb⟩
  have HB := Lib.hid (HB.out.trans (hb.mono HB.out.size))
  have HX := Lib.hid (HX.out.next hb)
  have HOA := Lib.hid (HOA.out.below hb)
  have HOB := Lib.hid (HOB.out.below hb)
  have hSS : (fun W => (W.cell? ⟨w.heap.size, 0, none⟩ = some (.int .i64 k) ∧ W.cell? ⟨w.heap.size, 1, none⟩ = some (.int .i64 f) ∧ W.cell? ⟨w.heap.size, 2, none⟩ = some (.int .i64 t) ∧ W.cell? ⟨w.heap.size, 3, none⟩ = some (.int .i64 x) ∧ W.cell? ⟨w.heap.size, 4, none⟩ = some (.slice A n cap1)) ∧ (convert 26 9 (.slice XA xn xc)).run Try.prog W = .ok (.string S) W ∧ (convert 26 9 (.slice YA yn yc)).run Try.prog W = .ok (.string S) W) w7 := ⟨HX.out.cells, conv_ownS HOA.out S HSS.out, conv_ownS HOB.out S HSS.out⟩
  clear hb
  try go_wp2_with fail
  refine hK0.out _ _ hSS (fun _ => ?_)
  clear hK0 K0
  try simp only [Act.put, List.setIfInBounds_toArray, List.set_cons_zero, List.set_cons_succ]
  refine wpAnyH_ready (rs := [5]) (by kernel_rfl) (by simp) ?_
  refine AllReadyH.cons (o := ({ dst := some 52, op := Go.Op.call { callee := Go.Callee.value (Go.Operand.func 14), args := #[Go.Operand.tmp 51], argTypes := #[25] }, type := 4, pos := "law.go:29", after := #[{ on := 4, ground := Go.Ground.data }, { on := 3, ground := Go.Ground.chain }, { on := 1, ground := Go.Ground.guard }], guard := some (1, true) } : Oper)) rfl (fun K0 hK0 => ?_) AllReadyH.nil
  go_simp
  go_at_call 14
  refine (HRR.out _ _ _ HX.out.rd).mono ?_
  rintro e w8 ⟨rfl, hb⟩
  have HB := Lib.hid (HB.out.trans (hb.mono HB.out.size))
  have HX := Lib.hid (HX.out.next hb)
  have HOA := Lib.hid (HOA.out.below hb)
  have HOB := Lib.hid (HOB.out.below hb)
  have hSS : (fun W => (W.cell? ⟨w.heap.size, 0, none⟩ = some (.int .i64 k) ∧ W.cell? ⟨w.heap.size, 1, none⟩ = some (.int .i64 f) ∧ W.cell? ⟨w.heap.size, 2, none⟩ = some (.int .i64 t) ∧ W.cell? ⟨w.heap.size, 3, none⟩ = some (.int .i64 x) ∧ W.cell? ⟨w.heap.size, 4, none⟩ = some (.slice A n cap1)) ∧ (convert 26 9 (.slice XA xn xc)).run Try.prog W = .ok (.string S) W ∧ (convert 26 9 (.slice YA yn yc)).run Try.prog W = .ok (.string S) W) w8 := ⟨HX.out.cells, conv_ownS HOA.out S HSS.out, conv_ownS HOB.out S HSS.out⟩
  clear hb
  try go_wp2_with fail
  refine hK0.out _ _ hSS (fun _ => ?_)
  clear hK0 K0
  try simp only [Act.put, List.setIfInBounds_toArray, List.set_cons_zero, List.set_cons_succ]
  refine wpAnyH_take (i := 6) (oi := ({ dst := some 53, op := Go.Op.binOp Go.BinOp.eql 4 (Go.Operand.tmp 50) (Go.Operand.tmp 52) 4, type := 4, pos := "law.go:29", after := #[{ on := 3, ground := Go.Ground.data }, { on := 5, ground := Go.Ground.data }, { on := 1, ground := Go.Ground.guard }], guard := some (1, true) } : Oper)) (v := ?v6x82) rfl (by kernel_rfl) (by kernel_rfl) (by kernel_rfl) (fun _ _ _ h => h) (Or.inl ⟨by rfl, ?hy6x82⟩) (by first | exact trivial | assumption) ?rest6x82
  case hy6x82 =>
    intro W0 hSw
    obtain ⟨⟨s0, s1, s2, s3, s4⟩, s5, s6⟩ := hSw
    go_simp
    first | done | with_reducible rfl
  try simp only [Act.put, List.setIfInBounds_toArray, List.set_cons_zero, List.set_cons_succ]
  refine wpAnyH_take (i := 7) (oi := ({ dst := some 54, op := Go.Op.pick (Go.Operand.tmp 48) (Go.Operand.tmp 53) (Go.Operand.const (Go.Value.bool false)), type := 4, pos := "law.go:29", after := #[{ on := 1, ground := Go.Ground.data }, { on := 6, ground := Go.Ground.data }], guard := none } : Oper)) (v := ?v7x83) rfl (by kernel_rfl) (by kernel_rfl) (by kernel_rfl) (fun _ _ _ h => h) (Or.inl ⟨by rfl, ?hy7x83⟩) (by first | exact trivial | assumption) ?rest7x83
  case hy7x83 =>
    intro W0 hSw
    obtain ⟨⟨s0, s1, s2, s3, s4⟩, s5, s6⟩ := hSw
    go_simp
    first | done | with_reducible rfl
  try simp only [Act.put, List.setIfInBounds_toArray, List.set_cons_zero, List.set_cons_succ]
  refine wpAnyH_take (i := 8) (oi := ({ dst := some 55, op := Go.Op.move (Go.Operand.tmp 54), type := 4, pos := "law.go:29", after := #[{ on := 7, ground := Go.Ground.data }, { on := 5, ground := Go.Ground.chain }], guard := none } : Oper)) (v := ?v8x84) rfl (by kernel_rfl) (by kernel_rfl) (by kernel_rfl) (fun _ _ _ h => h) (Or.inl ⟨by rfl, ?hy8x84⟩) (by first | exact trivial | assumption) ?rest8x84
  case hy8x84 =>
    intro W0 hSw
    obtain ⟨⟨s0, s1, s2, s3, s4⟩, s5, s6⟩ := hSw
    go_simp
    first | done | with_reducible rfl
  try simp only [Act.put, List.setIfInBounds_toArray, List.set_cons_zero, List.set_cons_succ]
  refine wpAnyH_take (i := 9) (oi := ({ dst := some 56, op := Go.Op.move (Go.Operand.tmp 5), type := 26, pos := "law.go:29", after := #[{ on := 8, ground := Go.Ground.guard }], guard := some (8, true) } : Oper)) (v := ?v9x85) rfl (by kernel_rfl) (by kernel_rfl) (by kernel_rfl) (fun _ _ _ h => h) (Or.inl ⟨by rfl, ?hy9x85⟩) (by first | exact trivial | assumption) ?rest9x85
  case hy9x85 =>
    intro W0 hSw
    obtain ⟨⟨s0, s1, s2, s3, s4⟩, s5, s6⟩ := hSw
    go_simp
    first | done | with_reducible rfl
  try simp only [Act.put, List.setIfInBounds_toArray, List.set_cons_zero, List.set_cons_succ]
  refine wpAnyH_take (i := 10) (oi := ({ dst := some 57, op := Go.Op.convert 26 9 (Go.Operand.tmp 56), type := 9, pos := "law.go:29", after := #[{ on := 9, ground := Go.Ground.data }, { on := 8, ground := Go.Ground.guard }], guard := some (8, true) } : Oper)) (v := ?v10x86) rfl (by kernel_rfl) (by kernel_rfl) (by kernel_rfl) (fun _ _ _ h => h) (Or.inl ⟨by rfl, ?hy10x86⟩) (by first | exact trivial | assumption) ?rest10x86
  case hy10x86 =>
    intro W0 hSw
    obtain ⟨⟨s0, s1, s2, s3, s4⟩, s5, s6⟩ := hSw
    go_simp
    first | done | with_reducible rfl
  try simp only [Act.put, List.setIfInBounds_toArray, List.set_cons_zero, List.set_cons_succ]
  refine wpAnyH_take (i := 11) (oi := ({ dst := some 58, op := Go.Op.move (Go.Operand.tmp 7), type := 26, pos := "law.go:29", after := #[{ on := 8, ground := Go.Ground.guard }], guard := some (8, true) } : Oper)) (v := ?v11x87) rfl (by kernel_rfl) (by kernel_rfl) (by kernel_rfl) (fun _ _ _ h => h) (Or.inl ⟨by rfl, ?hy11x87⟩) (by first | exact trivial | assumption) ?rest11x87
  case hy11x87 =>
    intro W0 hSw
    obtain ⟨⟨s0, s1, s2, s3, s4⟩, s5, s6⟩ := hSw
    go_simp
    first | done | with_reducible rfl
  try simp only [Act.put, List.setIfInBounds_toArray, List.set_cons_zero, List.set_cons_succ]
  refine wpAnyH_take (i := 12) (oi := ({ dst := some 59, op := Go.Op.convert 26 9 (Go.Operand.tmp 58), type := 9, pos := "law.go:29", after := #[{ on := 11, ground := Go.Ground.data }, { on := 8, ground := Go.Ground.guard }], guard := some (8, true) } : Oper)) (v := ?v12x88) rfl (by kernel_rfl) (by kernel_rfl) (by kernel_rfl) (fun _ _ _ h => h) (Or.inl ⟨by rfl, ?hy12x88⟩) (by first | exact trivial | assumption) ?rest12x88
  case hy12x88 =>
    intro W0 hSw
    obtain ⟨⟨s0, s1, s2, s3, s4⟩, s5, s6⟩ := hSw
    go_simp
    first | done | with_reducible rfl
  try simp only [Act.put, List.setIfInBounds_toArray, List.set_cons_zero, List.set_cons_succ]
  refine wpAnyH_take (i := 13) (oi := ({ dst := some 60, op := Go.Op.binOp Go.BinOp.eql 9 (Go.Operand.tmp 57) (Go.Operand.tmp 59) 9, type := 4, pos := "law.go:29", after := #[{ on := 10, ground := Go.Ground.data }, { on := 12, ground := Go.Ground.data }, { on := 8, ground := Go.Ground.guard }], guard := some (8, true) } : Oper)) (v := ?v13x89) rfl (by kernel_rfl) (by kernel_rfl) (by kernel_rfl) (fun _ _ _ h => h) (Or.inl ⟨by rfl, ?hy13x89⟩) (by first | exact trivial | assumption) ?rest13x89
  case hy13x89 =>
    intro W0 hSw
    obtain ⟨⟨s0, s1, s2, s3, s4⟩, s5, s6⟩ := hSw
    go_simp
    first | done | with_reducible rfl
  try simp only [Act.put, List.setIfInBounds_toArray, List.set_cons_zero, List.set_cons_succ]
  refine wpAnyH_take (i := 14) (oi := ({ dst := some 61, op := Go.Op.pick (Go.Operand.tmp 55) (Go.Operand.tmp 60) (Go.Operand.const (Go.Value.bool false)), type := 4, pos := "law.go:29", after := #[{ on := 8, ground := Go.Ground.data }, { on := 13, ground := Go.Ground.data }], guard := none } : Oper)) (v := ?v14x90) rfl (by kernel_rfl) (by kernel_rfl) (by kernel_rfl) (fun _ _ _ h => h) (Or.inl ⟨by rfl, ?hy14x90⟩) (by first | exact trivial | assumption) ?rest14x90
  case hy14x90 =>
    intro W0 hSw
    obtain ⟨⟨s0, s1, s2, s3, s4⟩, s5, s6⟩ := hSw
    go_simp
    first | done | with_reducible rfl
  try simp only [Act.put, List.setIfInBounds_toArray, List.set_cons_zero, List.set_cons_succ]
  refine wpAnyH_take (i := 15) (oi := ({ dst := some 62, op := Go.Op.move (Go.Operand.tmp 61), type := 4, pos := "law.go:29", after := #[{ on := 14, ground := Go.Ground.data }, { on := 8, ground := Go.Ground.chain }], guard := none } : Oper)) (v := ?v15x91) rfl (by kernel_rfl) (by kernel_rfl) (by kernel_rfl) (fun _ _ _ h => h) (Or.inl ⟨by rfl, ?hy15x91⟩) (by first | exact trivial | assumption) ?rest15x91
  case hy15x91 =>
    intro W0 hSw
    obtain ⟨⟨s0, s1, s2, s3, s4⟩, s5, s6⟩ := hSw
    go_simp
    first | done | with_reducible rfl
  try simp only [Act.put, List.setIfInBounds_toArray, List.set_cons_zero, List.set_cons_succ]
  refine wpAnyH_take (i := 16) (oi := ({ dst := some 63, op := Go.Op.move (Go.Operand.tmp 6), type := 28, pos := "law.go:29", after := #[{ on := 15, ground := Go.Ground.guard }], guard := some (15, true) } : Oper)) (v := ?v16x92) rfl (by kernel_rfl) (by kernel_rfl) (by kernel_rfl) (fun _ _ _ h => h) (Or.inl ⟨by rfl, ?hy16x92⟩) (by first | exact trivial | assumption) ?rest16x92
  case hy16x92 =>
    intro W0 hSw
    obtain ⟨⟨s0, s1, s2, s3, s4⟩, s5, s6⟩ := hSw
    go_simp
    first | done | with_reducible rfl
  try simp only [Act.put, List.setIfInBounds_toArray, List.set_cons_zero, List.set_cons_succ]
  refine wpAnyH_take (i := 17) (oi := ({ dst := some 64, op := Go.Op.move (Go.Operand.tmp 8), type := 28, pos := "law.go:29", after := #[{ on := 15, ground := Go.Ground.guard }], guard := some (15, true) } : Oper)) (v := ?v17x93) rfl (by kernel_rfl) (by kernel_rfl) (by kernel_rfl) (fun _ _ _ h => h) (Or.inl ⟨by rfl, ?hy17x93⟩) (by first | exact trivial | assumption) ?rest17x93
  case hy17x93 =>
    intro W0 hSw
    obtain ⟨⟨s0, s1, s2, s3, s4⟩, s5, s6⟩ := hSw
    go_simp
    first | done | with_reducible rfl
  try simp only [Act.put, List.setIfInBounds_toArray, List.set_cons_zero, List.set_cons_succ]
  refine wpAnyH_take (i := 18) (oi := ({ dst := some 65, op := Go.Op.binOp Go.BinOp.eql 28 (Go.Operand.tmp 63) (Go.Operand.tmp 64) 28, type := 4, pos := "law.go:29", after := #[{ on := 16, ground := Go.Ground.data }, { on := 17, ground := Go.Ground.data }, { on := 15, ground := Go.Ground.guard }], guard := some (15, true) } : Oper)) (v := ?v18x94) rfl (by kernel_rfl) (by kernel_rfl) (by kernel_rfl) (fun _ _ _ h => h) (Or.inl ⟨by rfl, ?hy18x94⟩) (by first | exact trivial | assumption) ?rest18x94
  case hy18x94 =>
    intro W0 hSw
    obtain ⟨⟨s0, s1, s2, s3, s4⟩, s5, s6⟩ := hSw
    go_simp
    first | done | with_reducible rfl
  try simp only [Act.put, List.setIfInBounds_toArray, List.set_cons_zero, List.set_cons_succ]
  refine wpAnyH_take (i := 19) (oi := ({ dst := some 66, op := Go.Op.pick (Go.Operand.tmp 62) (Go.Operand.tmp 65) (Go.Operand.const (Go.Value.bool false)), type := 4, pos := "law.go:29", after := #[{ on := 15, ground := Go.Ground.data }, { on := 18, ground := Go.Ground.data }], guard := none } : Oper)) (v := ?v19x95) rfl (by kernel_rfl) (by kernel_rfl) (by kernel_rfl) (fun _ _ _ h => h) (Or.inl ⟨by rfl, ?hy19x95⟩) (by first | exact trivial | assumption) ?rest19x95
  case hy19x95 =>
    intro W0 hSw
    obtain ⟨⟨s0, s1, s2, s3, s4⟩, s5, s6⟩ := hSw
    go_simp
    first | done | with_reducible rfl
  try simp only [Act.put, List.setIfInBounds_toArray, List.set_cons_zero, List.set_cons_succ]
  refine wpAnyH_take (i := 20) (oi := ({ dst := some 67, op := Go.Op.move (Go.Operand.tmp 66), type := 4, pos := "law.go:29", after := #[{ on := 19, ground := Go.Ground.data }, { on := 15, ground := Go.Ground.chain }], guard := none } : Oper)) (v := ?v20x96) rfl (by kernel_rfl) (by kernel_rfl) (by kernel_rfl) (fun _ _ _ h => h) (Or.inl ⟨by rfl, ?hy20x96⟩) (by first | exact trivial | assumption) ?rest20x96
  case hy20x96 =>
    intro W0 hSw
    obtain ⟨⟨s0, s1, s2, s3, s4⟩, s5, s6⟩ := hSw
    go_simp
    first | done | with_reducible rfl
  try simp only [Act.put, List.setIfInBounds_toArray, List.set_cons_zero, List.set_cons_succ]
  refine wpAnyH_take (i := 21) (oi := ({ dst := some 68, op := Go.Op.move (Go.Operand.tmp 13), type := 4, pos := "law.go:29", after := #[{ on := 20, ground := Go.Ground.guard }], guard := some (20, true) } : Oper)) (v := ?v21x97) rfl (by kernel_rfl) (by kernel_rfl) (by kernel_rfl) (fun _ _ _ h => h) (Or.inl ⟨by rfl, ?hy21x97⟩) (by first | exact trivial | assumption) ?rest21x97
  case hy21x97 =>
    intro W0 hSw
    obtain ⟨⟨s0, s1, s2, s3, s4⟩, s5, s6⟩ := hSw
    go_simp
    first | done | with_reducible rfl
  try simp only [Act.put, List.setIfInBounds_toArray, List.set_cons_zero, List.set_cons_succ]
  refine wpAnyH_take (i := 22) (oi := ({ dst := some 69, op := Go.Op.pick (Go.Operand.tmp 67) (Go.Operand.tmp 68) (Go.Operand.const (Go.Value.bool false)), type := 4, pos := "law.go:29", after := #[{ on := 20, ground := Go.Ground.data }, { on := 21, ground := Go.Ground.data }], guard := none } : Oper)) (v := ?v22x98) rfl (by kernel_rfl) (by kernel_rfl) (by kernel_rfl) (fun _ _ _ h => h) (Or.inl ⟨by rfl, ?hy22x98⟩) (by first | exact trivial | assumption) ?rest22x98
  case hy22x98 =>
    intro W0 hSw
    obtain ⟨⟨s0, s1, s2, s3, s4⟩, s5, s6⟩ := hSw
    go_simp
    first | done | with_reducible rfl
  try simp only [Act.put, List.setIfInBounds_toArray, List.set_cons_zero, List.set_cons_succ]
  refine wpAnyH_take (i := 23) (oi := ({ dst := some 70, op := Go.Op.move (Go.Operand.tmp 69), type := 4, pos := "law.go:29", after := #[{ on := 22, ground := Go.Ground.data }, { on := 20, ground := Go.Ground.chain }], guard := none } : Oper)) (v := ?v23x99) rfl (by kernel_rfl) (by kernel_rfl) (by kernel_rfl) (fun _ _ _ h => h) (Or.inl ⟨by rfl, ?hy23x99⟩) (by first | exact trivial | assumption) ?rest23x99
  case hy23x99 =>
    intro W0 hSw
    obtain ⟨⟨s0, s1, s2, s3, s4⟩, s5, s6⟩ := hSw
    go_simp
    first | done | with_reducible rfl
  try simp only [Act.put, List.setIfInBounds_toArray, List.set_cons_zero, List.set_cons_succ]
  refine wpAnyH_take (i := 24) (oi := ({ dst := some 71, op := Go.Op.move (Go.Operand.tmp 10), type := 28, pos := "law.go:29", after := #[{ on := 23, ground := Go.Ground.guard }], guard := some (23, true) } : Oper)) (v := ?v24x100) rfl (by kernel_rfl) (by kernel_rfl) (by kernel_rfl) (fun _ _ _ h => h) (Or.inl ⟨by rfl, ?hy24x100⟩) (by first | exact trivial | assumption) ?rest24x100
  case hy24x100 =>
    intro W0 hSw
    obtain ⟨⟨s0, s1, s2, s3, s4⟩, s5, s6⟩ := hSw
    go_simp
    first | done | with_reducible rfl
  try simp only [Act.put, List.setIfInBounds_toArray, List.set_cons_zero, List.set_cons_succ]
  refine wpAnyH_take (i := 25) (oi := ({ dst := some 72, op := Go.Op.move (Go.Operand.tmp 12), type := 28, pos := "law.go:29", after := #[{ on := 23, ground := Go.Ground.guard }], guard := some (23, true) } : Oper)) (v := ?v25x101) rfl (by kernel_rfl) (by kernel_rfl) (by kernel_rfl) (fun _ _ _ h => h) (Or.inl ⟨by rfl, ?hy25x101⟩) (by first | exact trivial | assumption) ?rest25x101
  case hy25x101 =>
    intro W0 hSw
    obtain ⟨⟨s0, s1, s2, s3, s4⟩, s5, s6⟩ := hSw
    go_simp
    first | done | with_reducible rfl
  try simp only [Act.put, List.setIfInBounds_toArray, List.set_cons_zero, List.set_cons_succ]
  refine wpAnyH_take (i := 26) (oi := ({ dst := some 73, op := Go.Op.binOp Go.BinOp.eql 28 (Go.Operand.tmp 71) (Go.Operand.tmp 72) 28, type := 4, pos := "law.go:29", after := #[{ on := 24, ground := Go.Ground.data }, { on := 25, ground := Go.Ground.data }, { on := 23, ground := Go.Ground.guard }], guard := some (23, true) } : Oper)) (v := ?v26x102) rfl (by kernel_rfl) (by kernel_rfl) (by kernel_rfl) (fun _ _ _ h => h) (Or.inl ⟨by rfl, ?hy26x102⟩) (by first | exact trivial | assumption) ?rest26x102
  case hy26x102 =>
    intro W0 hSw
    obtain ⟨⟨s0, s1, s2, s3, s4⟩, s5, s6⟩ := hSw
    go_simp
    first | done | with_reducible rfl
  try simp only [Act.put, List.setIfInBounds_toArray, List.set_cons_zero, List.set_cons_succ]
  refine wpAnyH_take (i := 27) (oi := ({ dst := some 74, op := Go.Op.pick (Go.Operand.tmp 70) (Go.Operand.tmp 73) (Go.Operand.const (Go.Value.bool false)), type := 4, pos := "law.go:29", after := #[{ on := 23, ground := Go.Ground.data }, { on := 26, ground := Go.Ground.data }], guard := none } : Oper)) (v := ?v27x103) rfl (by kernel_rfl) (by kernel_rfl) (by kernel_rfl) (fun _ _ _ h => h) (Or.inl ⟨by rfl, ?hy27x103⟩) (by first | exact trivial | assumption) ?rest27x103
  case hy27x103 =>
    intro W0 hSw
    obtain ⟨⟨s0, s1, s2, s3, s4⟩, s5, s6⟩ := hSw
    go_simp
    first | done | with_reducible rfl
  try simp only [Act.put, List.setIfInBounds_toArray, List.set_cons_zero, List.set_cons_succ]
  refine wpAnyH_take (i := 28) (oi := ({ dst := some 4, op := Go.Op.assign (Go.Operand.tmp 74), type := 4, pos := "law.go:29", after := #[{ on := 27, ground := Go.Ground.data }, { on := 23, ground := Go.Ground.chain }, { on := 0, ground := Go.Ground.phase }, { on := 1, ground := Go.Ground.phase }, { on := 2, ground := Go.Ground.phase }, { on := 3, ground := Go.Ground.phase }, { on := 4, ground := Go.Ground.phase }, { on := 5, ground := Go.Ground.phase }, { on := 6, ground := Go.Ground.phase }, { on := 7, ground := Go.Ground.phase }, { on := 8, ground := Go.Ground.phase }, { on := 9, ground := Go.Ground.phase }, { on := 10, ground := Go.Ground.phase }, { on := 11, ground := Go.Ground.phase }, { on := 12, ground := Go.Ground.phase }, { on := 13, ground := Go.Ground.phase }, { on := 14, ground := Go.Ground.phase }, { on := 15, ground := Go.Ground.phase }, { on := 16, ground := Go.Ground.phase }, { on := 17, ground := Go.Ground.phase }, { on := 18, ground := Go.Ground.phase }, { on := 19, ground := Go.Ground.phase }, { on := 20, ground := Go.Ground.phase }, { on := 21, ground := Go.Ground.phase }, { on := 22, ground := Go.Ground.phase }, { on := 23, ground := Go.Ground.phase }, { on := 24, ground := Go.Ground.phase }, { on := 25, ground := Go.Ground.phase }, { on := 26, ground := Go.Ground.phase }, { on := 27, ground := Go.Ground.phase }], guard := none } : Oper)) (v := ?v28x104) rfl (by kernel_rfl) (by kernel_rfl) (by kernel_rfl) (fun _ _ _ h => h) (Or.inl ⟨by rfl, ?hy28x104⟩) (by first | exact trivial | assumption) ?rest28x104
  case hy28x104 =>
    intro W0 hSw
    obtain ⟨⟨s0, s1, s2, s3, s4⟩, s5, s6⟩ := hSw
    go_simp
    first | done | with_reducible rfl
  try simp only [Act.put, List.setIfInBounds_toArray, List.set_cons_zero, List.set_cons_succ]
  refine wpAnyH_done (by kernel_rfl) ?_ _
  go_wp2_with fail
  go_ret
  exact ⟨rfl, HB.out⟩
set_option maxRecDepth 100000 in
set_option maxHeartbeats 8000000 in
theorem le_big1 (k f t x : Int) (A C : Option Addr) (cap1 cap2 n nb : Nat) (w : World) (h1 : (300 : Int) < (n : Int)) :
    Calls Try.prog 3 #[.agg #[.int .i64 k, .int .i64 f, .int .i64 t, .int .i64 x, .slice A n cap1], .slice C nb cap2] w (Ans (.bool true) w) := by
  have HB : Hid (Below w.heap.size w (w.alloc (.cells #[.int .i64 k, .int .i64 f, .int .i64 t, .int .i64 x, .slice A n cap1] 25))) := Lib.hid (alloc_below w _)
  obtain ⟨x0, x1, x2, x3, x4⟩ := box5 (heap_alloc_new w (.cells #[.int .i64 k, .int .i64 f, .int .i64 t, .int .i64 x, .slice A n cap1] 25))
  have HL := Lib.hid aliveZ_any
  go_enter Try.func3, Try.ntmps3
  go_wp2_with (go_at_call 7; refine (HL.out _).mono ?_; rintro e w12 ⟨rfl, hb⟩; have HB := Lib.hid (HB.out.trans (hb.mono HB.out.size)); clear hb)
  go_ret
  exact ⟨rfl, HB.out⟩
set_option maxRecDepth 100000 in
set_option maxHeartbeats 8000000 in
theorem le_big2 (k f t x : Int) (A C : Option Addr) (cap1 cap2 n nb : Nat) (w : World) (h1 : ¬ (300 : Int) < (n : Int)) (h2 : (300 : Int) < (nb : Int)) :
    Calls Try.prog 3 #[.agg #[.int .i64 k, .int .i64 f, .int .i64 t, .int .i64 x, .slice A n cap1], .slice C nb cap2] w (Ans (.bool true) w) := by
  have HB : Hid (Below w.heap.size w (w.alloc (.cells #[.int .i64 k, .int .i64 f, .int .i64 t, .int .i64 x, .slice A n cap1] 25))) := Lib.hid (alloc_below w _)
  obtain ⟨x0, x1, x2, x3, x4⟩ := box5 (heap_alloc_new w (.cells #[.int .i64 k, .int .i64 f, .int .i64 t, .int .i64 x, .slice A n cap1] 25))
  have HL := Lib.hid aliveZ_any
  go_enter Try.func3, Try.ntmps3
  go_wp2_with (go_at_call 7; refine (HL.out _).mono ?_; rintro e w12 ⟨rfl, hb⟩; have HB := Lib.hid (HB.out.trans (hb.mono HB.out.size)); clear hb)
  go_ret
  exact ⟨rfl, HB.out⟩
theorem letterEncodes_law (l : Ltr) (b : List UInt8) (A C : Option Addr) (cap1 cap2 : Nat) (w : World) (hcb : b.length ≤ cap2) (hr : RdI w w.heap.size A l.ns) (hrb : RdB w w.heap.size C b) :
    Calls Try.prog 3 #[.agg #[.int .i64 l.k, .int .i64 l.f, .int .i64 l.t, .int .i64 l.x, .slice A l.ns.length cap1], .slice C b.length cap2] w (Ans (.bool true) w) := by
  by_cases h1 : (300 : Int) < (l.ns.length : Int)
  · exact le_big1 _ _ _ _ A C cap1 cap2 _ _ w h1
  by_cases h2 : (300 : Int) < (b.length : Int)
  · exact le_big2 _ _ _ _ A C cap1 cap2 _ _ w h1 h2
  have g1 : l.ns.length ≤ 300 := by omega
  have g2 : b.length ≤ 300 := by omega
  by_cases hz : ∃ z : Ltr, z.right = true ∧ b = z.bytes
  · obtain ⟨z, hz, hbz⟩ := hz
    cases hR : l.right with
    | false => exact le_z_x l b A C cap1 cap2 _ _ w rfl rfl g1 g2 hcb hr hrb z hz hbz hR
    | true => exact le_z_y l b A C cap1 cap2 _ _ w rfl rfl g1 g2 hcb hr hrb z hz hbz hR
  · have hno : ∀ z : Ltr, z.right = true → b ≠ z.bytes := fun z h e => hz ⟨z, h, e⟩
    cases hR : l.right with
    | false => exact le_n_x l b A C cap1 cap2 _ _ w rfl rfl g1 g2 hcb hr hrb hno hR
    | true => exact le_n_y l b A C cap1 cap2 _ _ w rfl rfl g1 g2 hcb hr hrb hno hR
#print axioms letterEncodes_law
end Go.Proofs.Ytbbhddpfclgohaa
