/- ValueLine: the law's own body answers true. -/
import Derived.Test.YtaokblhflhlhiaaGreatDoorN
import Derived.Test.YtaokblhflhlhiaaGreatDoorKM
namespace Go.Proofs.YtaokblhflhlhiaaGreatDoor
open Go.RowKit
attribute [local go_sem ↓] eqV

theorem rows2 (p q r : Val) : rowsI [p, q] [p, r] = ordI q r := by
  simp only [rowsI]
  rw [if_pos (ord_self p)]
  split
  · next h => exact h.symm
  · rfl
theorem rows21 (p q : Val) : rowsI [p, q] [p] = 1 := by
  simp only [rowsI]
  rw [if_pos (ord_self p)]
theorem rows12 (p q : Val) : rowsI [p] [p, q] = -1 := by
  simp only [rowsI]
  rw [if_pos (ord_self p)]
theorem eqB_of {x y : Val} {b : Bool} (h : decide (ordI x y = 0) = b) : eqB x.k x.n x.s y.k y.n y.s = b := by
  rw [← h]
  unfold eqB
  rw [decide_eq_decide, ord_zero_iff]
  exact ⟨fun ⟨a, b, c⟩ => Val.ext' a b c, fun e => by rw [e]; exact ⟨rfl, rfl, rfl⟩⟩
/-- three values in an array's cells -/
def three (l0 l1 l2 : Val) : Array Value := #[.int .i64 l0.k, .int .i64 l0.n, .string l0.s, .int .i64 l1.k, .int .i64 l1.n, .string l1.s, .int .i64 l2.k, .int .i64 l2.n, .string l2.s]
theorem nine {w : World} {g : Nat} {l0 l1 l2 : Val} {t : TypeId} {fr : Nat × Nat} (h : w.heap[g]? = some (.cells (three l0 l1 l2) t fr)) :
    w.cell? ⟨g, 0, none⟩ = some (.int .i64 l0.k) ∧ w.cell? ⟨g, 1, none⟩ = some (.int .i64 l0.n) ∧ w.cell? ⟨g, 2, none⟩ = some (.string l0.s) ∧
    w.cell? ⟨g, 3, none⟩ = some (.int .i64 l1.k) ∧ w.cell? ⟨g, 4, none⟩ = some (.int .i64 l1.n) ∧ w.cell? ⟨g, 5, none⟩ = some (.string l1.s) ∧
    w.cell? ⟨g, 6, none⟩ = some (.int .i64 l2.k) ∧ w.cell? ⟨g, 7, none⟩ = some (.int .i64 l2.n) ∧ w.cell? ⟨g, 8, none⟩ = some (.string l2.s) := by
  unfold three at h
  simp [World.cell?, h]
/-- the array in its box, and nothing else turned -/
structure VLW (w : World) (l0 l1 l2 : Val) (wr : World) : Prop where
  bx : wr.heap[w.heap.size]? = some (.cells (three l0 l1 l2) 45 (0, 0))
  bel : Below w.heap.size w wr
theorem VLW.next {w wr wx : World} {l0 l1 l2 : Val} (h : VLW w l0 l1 l2 wr) (hb : Below wr.heap.size wr wx) : VLW w l0 l1 l2 wx :=
  ⟨(hb.block _ (Array.getElem?_eq_some_iff.1 h.bx).1).trans h.bx, h.bel.trans (hb.mono h.bel.size)⟩
theorem rd_two_vals {w : World} {g : Nat} {x y : Val} (h : w.heap[g]? = some (.cells #[.int .i64 x.k, .int .i64 x.n, .string x.s, .int .i64 y.k, .int .i64 y.n, .string y.s] 24 (0, 0))) : RdV w w.heap.size (some ⟨g, 0, none⟩) [x, y] := fun _ => by
  refine ⟨g, 0, rfl, (Array.getElem?_eq_some_iff.1 h).1, fun j z hj => ?_⟩
  match j with
  | 0 => simp at hj; subst hj; simp [World.cell?, h]
  | 1 => simp at hj; subst hj; simp [World.cell?, h]
  | j + 2 => simp at hj
theorem heap_old' {w : World} {g : Nat} {o p : Obj} (h : w.heap[g]? = some o) : (w.alloc p).heap[g]? = some o := by
  rw [Below.heap_alloc _ _ _ (Array.getElem?_eq_some_iff.1 h).1]
  exact h
theorem heap_new2' (w : World) (o p : Obj) : ((w.alloc o).alloc p).heap[w.heap.size + 1]? = some p := by
  have h := heap_alloc_new (w.alloc o) p
  have e : (w.alloc o).heap.size = w.heap.size + 1 := by simp
  rw [e] at h
  exact h
theorem rows_n (a b : List Val) (A C : Option Addr) (n m cap1 cap2 : Nat) (w : World) (hn : n = a.length) (hm : m = b.length) (hla : n ≤ 1000) (hr : RdV w w.heap.size A a) (hs : RdV w w.heap.size C b) :
    Calls Tryz.prog 12 #[.slice A n cap1, .slice C m cap2] w (Ans (.int .i64 (rowsI a b)) w) := by
  subst hn hm
  exact rows_any a b A C cap1 cap2 w (by unfold maxLen; omega) hr hs
theorem line_facts (l0 l1 l2 : Val) : ordI l1 l0 = - ordI l0 l1 ∧ ((ordI l0 l1 = -1 ∧ ordI l1 l2 = -1 ∧ ordI l0 l2 = -1) ∨ (ordI l0 l1 = -1 ∧ ordI l1 l2 = 0 ∧ ordI l0 l2 = -1) ∨ (ordI l0 l1 = -1 ∧ ordI l1 l2 = 1) ∨
    (ordI l0 l1 = 0 ∧ ordI l1 l2 = -1 ∧ ordI l0 l2 = -1) ∨ (ordI l0 l1 = 0 ∧ ordI l1 l2 = 0 ∧ ordI l0 l2 = 0) ∨ (ordI l0 l1 = 0 ∧ ordI l1 l2 = 1) ∨ (ordI l0 l1 = 1)) := by
  have h1 := line_ord.neg l1 l0
  refine ⟨h1, ?_⟩
  have a := ord_3 l0 l1
  have b := ord_3 l1 l2
  have c := ord_3 l0 l2
  have t1 := line_ord.tr l0 l1 l2
  have t2 := @LineC.lt_le _ _ line_ord l0 l1 l2
  have t3 := @LineC.le_lt _ _ line_ord l0 l1 l2
  have n1 := line_ord.neg l0 l2
  have n2 := line_ord.neg l1 l2
  have t4 := line_ord.tr l2 l1 l0
  have n3 := line_ord.neg l2 l1
  have n4 := line_ord.neg l2 l0
  rcases a with a | a | a
  · rcases b with b | b | b
    · exact .inl ⟨a, b, by have := t2 (by omega) (by omega); omega⟩
    · exact .inr (.inl ⟨a, b, by have := t2 (by omega) (by omega); omega⟩)
    · exact .inr (.inr (.inl ⟨a, b⟩))
  · rcases b with b | b | b
    · exact .inr (.inr (.inr (.inl ⟨a, b, by have := t3 (by omega) (by omega); omega⟩)))
    · exact .inr (.inr (.inr (.inr (.inl ⟨a, b, by have := t1 (by omega) (by omega); have := t4 (by omega) (by omega); omega⟩))))
    · exact .inr (.inr (.inr (.inr (.inr (.inl ⟨a, b⟩)))))
  · exact .inr (.inr (.inr (.inr (.inr (.inr a)))))
set_option maxRecDepth 100000 in
set_option maxHeartbeats 40000000 in
theorem valueLine_law (l0 l1 l2 : Val) (w : World) (hE : Env w) (h0 : l0.s.size ≤ 9223372036854775807) (h1 : l1.s.size ≤ 9223372036854775807) (h2 : l2.s.size ≤ 9223372036854775807) :
    Calls Tryz.prog 5 #[.agg #[.int .i64 l0.k, .int .i64 l0.n, .string l0.s, .int .i64 l1.k, .int .i64 l1.n, .string l1.s, .int .i64 l2.k, .int .i64 l2.n, .string l2.s]] w (Ans (.bool true) w) := by
  have HE := Lib.hid hE
  have AL := Lib.hid alive_any
  have HS : Hid (VLW w l0 l1 l2 (w.alloc (.cells #[.int .i64 l0.k, .int .i64 l0.n, .string l0.s, .int .i64 l1.k, .int .i64 l1.n, .string l1.s, .int .i64 l2.k, .int .i64 l2.n, .string l2.s] 45))) := Lib.hid ⟨heap_alloc_new _ _, alloc_below _ _⟩
  have HZ := Lib.hid (And.intro h0 (And.intro h1 h2))
  clear hE h0 h1 h2
  obtain ⟨x0, x1, x2, x3, x4, x5, x6, x7, x8⟩ := nine HS.out.bx
  go_enter Tryz.func5, Tryz.ntmps5
  go_wp2_with fail
  generalize w.alloc (.cells #[.int .i64 l0.k, .int .i64 l0.n, .string l0.s, .int .i64 l1.k, .int .i64 l1.n, .string l1.s, .int .i64 l2.k, .int .i64 l2.n, .string l2.s] 45) = w1 at *
  go_loop [3] (fun v3 => ∃ k : Nat, v3 = .int .i64 k ∧ k ≤ 3) (fun v3 => 3 - (intOf v3).toNat)
  case atStart => exact ⟨0, rfl, by omega⟩
  case round =>
    obtain ⟨k, rfl, hk⟩ := hrel
    have hk4 : k = 0 ∨ k = 1 ∨ k = 2 ∨ k = 3 := by omega
    clear hk
    rcases hk4 with rfl | rfl | rfl | rfl
    · by_cases hs : l0.s.size ≤ 500
      · have hsi : ¬ (500 : Int) < (l0.s.size : Int) := by omega
        clear hs
        go_wp2_with fail
        go_round
        case rel => exact ⟨1, by first | rfl | go_num, by omega⟩
        case measure => simp [intOf]
      · have hsi : (500 : Int) < (l0.s.size : Int) := by omega
        clear hs
        go_wp2_with (go_at_call 6; refine (AL.out _ (HE.out.below HS.out.bel)).mono ?_; rintro e w2 ⟨rfl, hb⟩; have HY := Lib.hid (HS.out.bel.trans (hb.mono HS.out.bel.size)); clear hb)
        go_ret
        exact ⟨rfl, HY.out⟩
    · by_cases hs : l1.s.size ≤ 500
      · have hsi : ¬ (500 : Int) < (l1.s.size : Int) := by omega
        clear hs
        go_wp2_with fail
        go_round
        case rel => exact ⟨2, by first | rfl | go_num, by omega⟩
        case measure => simp [intOf]
      · have hsi : (500 : Int) < (l1.s.size : Int) := by omega
        clear hs
        go_wp2_with (go_at_call 6; refine (AL.out _ (HE.out.below HS.out.bel)).mono ?_; rintro e w2 ⟨rfl, hb⟩; have HY := Lib.hid (HS.out.bel.trans (hb.mono HS.out.bel.size)); clear hb)
        go_ret
        exact ⟨rfl, HY.out⟩
    · by_cases hs : l2.s.size ≤ 500
      · have hsi : ¬ (500 : Int) < (l2.s.size : Int) := by omega
        clear hs
        go_wp2_with fail
        go_round
        case rel => exact ⟨3, by first | rfl | go_num, by omega⟩
        case measure => simp [intOf]
      · have hsi : (500 : Int) < (l2.s.size : Int) := by omega
        clear hs
        go_wp2_with (go_at_call 6; refine (AL.out _ (HE.out.below HS.out.bel)).mono ?_; rintro e w2 ⟨rfl, hb⟩; have HY := Lib.hid (HS.out.bel.trans (hb.mono HS.out.bel.size)); clear hb)
        go_ret
        exact ⟨rfl, HY.out⟩
    · have O01 := Lib.hid (order_at l0 l1)
      have O12 := Lib.hid (order_at l1 l2)
      have O02 := Lib.hid (order_at l0 l2)
      have O10 := Lib.hid (order_at l1 l0)
      have LF := Lib.hid (line_facts l0 l1 l2)
      have EQ : Hid (∀ b : Bool, decide (ordI l0 l1 = 0) = b → eqB l0.k l0.n l0.s l1.k l1.n l1.s = b) := Lib.hid fun b h => eqB_of h
      have R1 := Lib.hid (rows2 l0 l1 l2)
      have C3 := Lib.hid (And.intro (ord_3 l0 l2) (ord_3 l1 l2))
      generalize ordI l0 l1 = x at *
      generalize ordI l1 l2 = y at *
      generalize ordI l0 l2 = z at *
      generalize ordI l1 l0 = x' at *
      have HW := HS
      go_upto_region 9 with (go_at_call 10
                             first
                               | ((with_reducible refine (O01.out _).mono ?_); rintro e w2 ⟨rfl, hb⟩; have HW := Lib.hid (HW.out.next hb); clear hb; obtain ⟨x0, x1, x2, x3, x4, x5, x6, x7, x8⟩ := nine HW.out.bx)
                               | ((with_reducible refine (O12.out _).mono ?_); rintro e w3 ⟨rfl, hb⟩; have HW := Lib.hid (HW.out.next hb); clear hb; obtain ⟨x0, x1, x2, x3, x4, x5, x6, x7, x8⟩ := nine HW.out.bx)
                               | ((with_reducible refine (O02.out _).mono ?_); rintro e w4 ⟨rfl, hb⟩; have HW := Lib.hid (HW.out.next hb); clear hb; obtain ⟨x0, x1, x2, x3, x4, x5, x6, x7, x8⟩ := nine HW.out.bx))
      go_cut [76] (fun v76 wx => v76 = .bool false ∧ VLW w l0 l1 l2 wx)
      case first =>
        obtain ⟨hneg, hc⟩ := LF.out
        have hx3 : (x = -1 ∧ x' = 1) ∨ (x = 0 ∧ x' = 0) ∨ (x = 1 ∧ x' = -1) := by omega
        have hc7 : (x = -1 ∧ y = -1 ∧ z = -1) ∨ (x = -1 ∧ y = 0 ∧ z = -1) ∨ (x = -1 ∧ y = 1) ∨ (x = 0 ∧ y = -1 ∧ z = -1) ∨ (x = 0 ∧ y = 0 ∧ z = 0) ∨ (x = 0 ∧ y = 1) ∨ (x = 1) := hc
        clear hneg hc LF R1 C3 O01 O12 O02
        rcases hx3 with ⟨rfl, rfl⟩ | ⟨rfl, rfl⟩ | ⟨rfl, rfl⟩
        · have he := EQ.out false rfl
          have hc3 : (y = -1 ∧ z = -1) ∨ (y = 0 ∧ z = -1) ∨ (y = 1) := by omega
          clear hc7 EQ
          rcases hc3 with ⟨rfl, rfl⟩ | ⟨rfl, rfl⟩ | rfl
          all_goals
            go_wp2_with (go_at_call 10; refine (O10.out _).mono ?_; rintro e w5 ⟨rfl, hb⟩; have HW := Lib.hid (HW.out.next hb); clear hb; obtain ⟨x0, x1, x2, x3, x4, x5, x6, x7, x8⟩ := nine HW.out.bx)
            go_meet
            exact ⟨rfl, HW.out⟩
        · have he := EQ.out true rfl
          have hc3 : (y = -1 ∧ z = -1) ∨ (y = 0 ∧ z = 0) ∨ (y = 1) := by omega
          clear hc7 EQ
          rcases hc3 with ⟨rfl, rfl⟩ | ⟨rfl, rfl⟩ | rfl
          all_goals
            go_wp2_with (go_at_call 10; refine (O10.out _).mono ?_; rintro e w5 ⟨rfl, hb⟩; have HW := Lib.hid (HW.out.next hb); clear hb; obtain ⟨x0, x1, x2, x3, x4, x5, x6, x7, x8⟩ := nine HW.out.bx)
            go_meet
            exact ⟨rfl, HW.out⟩
        · have he := EQ.out false rfl
          clear hc7 EQ
          go_wp2_with (go_at_call 10; refine (O10.out _).mono ?_; rintro e w5 ⟨rfl, hb⟩; have HW := Lib.hid (HW.out.next hb); clear hb; obtain ⟨x0, x1, x2, x3, x4, x5, x6, x7, x8⟩ := nine HW.out.bx)
          go_meet
          exact ⟨rfl, HW.out⟩
      case rest =>
        obtain ⟨rfl, hw⟩ := hcut
        clear x0 x1 x2 x3 x4 x5 x6 x7 x8 HW
        have HW := Lib.hid hw
        clear hw
        obtain ⟨x0, x1, x2, x3, x4, x5, x6, x7, x8⟩ := nine HW.out.bx
        clear LF EQ C3 O01 O12 O02 O10
        have hlt : w.heap.size < wc.heap.size := (Array.getElem?_eq_some_iff.1 HW.out.bx).1
        have HB2 : Hid (Below wc.heap.size wc ((wc.alloc (.cells #[.int .i64 l0.k, .int .i64 l0.n, .string l0.s, .int .i64 l1.k, .int .i64 l1.n, .string l1.s] 24)).alloc (.cells #[.int .i64 l0.k, .int .i64 l0.n, .string l0.s, .int .i64 l2.k, .int .i64 l2.n, .string l2.s] 24))) := Lib.hid (alloc2_below _ _ _)
        have HA : Hid (((wc.alloc (.cells #[.int .i64 l0.k, .int .i64 l0.n, .string l0.s, .int .i64 l1.k, .int .i64 l1.n, .string l1.s] 24)).alloc (.cells #[.int .i64 l0.k, .int .i64 l0.n, .string l0.s, .int .i64 l2.k, .int .i64 l2.n, .string l2.s] 24)).heap[wc.heap.size]? = _) := Lib.hid (heap_old' (heap_alloc_new _ _))
        have HBB : Hid (((wc.alloc (.cells #[.int .i64 l0.k, .int .i64 l0.n, .string l0.s, .int .i64 l1.k, .int .i64 l1.n, .string l1.s] 24)).alloc (.cells #[.int .i64 l0.k, .int .i64 l0.n, .string l0.s, .int .i64 l2.k, .int .i64 l2.n, .string l2.s] 24)).heap[wc.heap.size + 1]? = _) := Lib.hid (heap_new2' _ _ _)
        have HWZ := Lib.hid (HW.out.bel.trans (HB2.out.mono HW.out.bel.size))
        have RA := Lib.hid (fun W (hb : Below ((wc.alloc (.cells #[.int .i64 l0.k, .int .i64 l0.n, .string l0.s, .int .i64 l1.k, .int .i64 l1.n, .string l1.s] 24)).alloc (.cells #[.int .i64 l0.k, .int .i64 l0.n, .string l0.s, .int .i64 l2.k, .int .i64 l2.n, .string l2.s] 24)).heap.size ((wc.alloc (.cells #[.int .i64 l0.k, .int .i64 l0.n, .string l0.s, .int .i64 l1.k, .int .i64 l1.n, .string l1.s] 24)).alloc (.cells #[.int .i64 l0.k, .int .i64 l0.n, .string l0.s, .int .i64 l2.k, .int .i64 l2.n, .string l2.s] 24)) W) => ((rd_two_vals HA.out).below hb (Nat.le_refl _)).more hb.size)
        have RB := Lib.hid (fun W (hb : Below ((wc.alloc (.cells #[.int .i64 l0.k, .int .i64 l0.n, .string l0.s, .int .i64 l1.k, .int .i64 l1.n, .string l1.s] 24)).alloc (.cells #[.int .i64 l0.k, .int .i64 l0.n, .string l0.s, .int .i64 l2.k, .int .i64 l2.n, .string l2.s] 24)).heap.size ((wc.alloc (.cells #[.int .i64 l0.k, .int .i64 l0.n, .string l0.s, .int .i64 l1.k, .int .i64 l1.n, .string l1.s] 24)).alloc (.cells #[.int .i64 l0.k, .int .i64 l0.n, .string l0.s, .int .i64 l2.k, .int .i64 l2.n, .string l2.s] 24)) W) => ((rd_two_vals HBB.out).below hb (Nat.le_refl _)).more hb.size)
        have C1 := Lib.hid (fun W (hb : Below ((wc.alloc (.cells #[.int .i64 l0.k, .int .i64 l0.n, .string l0.s, .int .i64 l1.k, .int .i64 l1.n, .string l1.s] 24)).alloc (.cells #[.int .i64 l0.k, .int .i64 l0.n, .string l0.s, .int .i64 l2.k, .int .i64 l2.n, .string l2.s] 24)).heap.size ((wc.alloc (.cells #[.int .i64 l0.k, .int .i64 l0.n, .string l0.s, .int .i64 l1.k, .int .i64 l1.n, .string l1.s] 24)).alloc (.cells #[.int .i64 l0.k, .int .i64 l0.n, .string l0.s, .int .i64 l2.k, .int .i64 l2.n, .string l2.s] 24)) W) => rows_n [l0, l1] [l0, l2] _ _ 2 2 2 2 W rfl rfl (by omega) (RA.out W hb) (RB.out W hb))
        have C2 := Lib.hid (fun W (hb : Below ((wc.alloc (.cells #[.int .i64 l0.k, .int .i64 l0.n, .string l0.s, .int .i64 l1.k, .int .i64 l1.n, .string l1.s] 24)).alloc (.cells #[.int .i64 l0.k, .int .i64 l0.n, .string l0.s, .int .i64 l2.k, .int .i64 l2.n, .string l2.s] 24)).heap.size ((wc.alloc (.cells #[.int .i64 l0.k, .int .i64 l0.n, .string l0.s, .int .i64 l1.k, .int .i64 l1.n, .string l1.s] 24)).alloc (.cells #[.int .i64 l0.k, .int .i64 l0.n, .string l0.s, .int .i64 l2.k, .int .i64 l2.n, .string l2.s] 24)) W) => rows_n [l0, l1] [l0] _ _ 2 1 2 2 W rfl rfl (by omega) (RA.out W hb) ((RA.out W hb).take 1))
        have C3 := Lib.hid (fun W (hb : Below ((wc.alloc (.cells #[.int .i64 l0.k, .int .i64 l0.n, .string l0.s, .int .i64 l1.k, .int .i64 l1.n, .string l1.s] 24)).alloc (.cells #[.int .i64 l0.k, .int .i64 l0.n, .string l0.s, .int .i64 l2.k, .int .i64 l2.n, .string l2.s] 24)).heap.size ((wc.alloc (.cells #[.int .i64 l0.k, .int .i64 l0.n, .string l0.s, .int .i64 l1.k, .int .i64 l1.n, .string l1.s] 24)).alloc (.cells #[.int .i64 l0.k, .int .i64 l0.n, .string l0.s, .int .i64 l2.k, .int .i64 l2.n, .string l2.s] 24)) W) => rows_n [l0] [l0, l1] _ _ 1 2 2 2 W rfl rfl (by omega) ((RA.out W hb).take 1) (RA.out W hb))
        have C4 := Lib.hid (fun W => rows_n [] [] none none 0 0 0 0 W rfl rfl (by omega) (RdV.nil _ _ _) (RdV.nil _ _ _))
        rw [R1.out] at C1
        rw [rows21] at C2
        rw [rows12] at C3
        have r0 : rowsI [] [] = 0 := rfl
        rw [r0] at C4
        clear r0 R1 HA HBB
        go_wp2_with (first
          | (go_at_call 6; refine (AL.out _ (HE.out.below HWZ.out)).mono ?_; rintro e w6 ⟨rfl, hb⟩; have HBF := Lib.hid hb; clear hb)
          | (go_at_call 12
             first
               | ((with_reducible refine (C1.out _ HBF.out).mono ?_); rintro e w7 ⟨rfl, hb⟩; have HBF := Lib.hid (HBF.out.trans (hb.mono HBF.out.size)); clear hb)
               | ((with_reducible refine (C2.out _ HBF.out).mono ?_); rintro e w8 ⟨rfl, hb⟩; have HBF := Lib.hid (HBF.out.trans (hb.mono HBF.out.size)); clear hb)
               | ((with_reducible refine (C3.out _ HBF.out).mono ?_); rintro e w9 ⟨rfl, hb⟩; have HBF := Lib.hid (HBF.out.trans (hb.mono HBF.out.size)); clear hb)
               | ((with_reducible refine (C4.out _).mono ?_); rintro e w10 ⟨rfl, hb⟩; have HBF := Lib.hid (HBF.out.trans (hb.mono HBF.out.size)); clear hb)))
        go_ret
        exact ⟨rfl, HWZ.out.trans (HBF.out.mono HWZ.out.size)⟩
end Go.Proofs.YtaokblhflhlhiaaGreatDoor
