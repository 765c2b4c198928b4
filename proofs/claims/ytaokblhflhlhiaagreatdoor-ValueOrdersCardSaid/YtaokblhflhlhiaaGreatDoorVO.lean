/- ValueOrders: the law's own body answers true. -/
import Derived.Test.YtaokblhflhlhiaaGreatDoorN
import Derived.Test.YtaokblhflhlhiaaGreatDoorKM
import Derived.Test.YtaokblhflhlhiaaGreatDoorRQ
namespace Go.Proofs.YtaokblhflhlhiaaGreatDoor
open Go.RowKit

theorem small_any (x : Val) (w : World) : Calls Tryz.prog 7 #[.agg #[.int .i64 x.k, .int .i64 x.n, .string x.s]] w (Ans (.bool (decide (x.s.size ≤ 500))) w) := by
  obtain ⟨k, n, s⟩ := x
  simp only
  have HB := Lib.hid (alloc_below w (.cells #[.int .i64 k, .int .i64 n, .string s] 24))
  by_cases h : s.size ≤ 500
  · have hi : (s.size : Int) ≤ 500 := by omega
    rw [decide_eq_true h]
    clear h
    go_enter Tryz.func7, Tryz.ntmps7
    go_wp2_with fail
    go_ret
    exact ⟨rfl, HB.out⟩
  · have hi : ¬ (s.size : Int) ≤ 500 := by omega
    rw [decide_eq_false h]
    clear h
    go_enter Tryz.func7, Tryz.ntmps7
    go_wp2_with fail
    go_ret
    exact ⟨rfl, HB.out⟩
theorem right_at2 (x : Val) (hl : x.s.size ≤ 9223372036854775807) (w : World) : Calls Tryz.prog 8 #[.agg #[.int .i64 x.k, .int .i64 x.n, .string x.s]] w (Ans (.bool (rightB x)) w) := right_any x hl w
def vbx (x : Val) : Obj := .cells #[.int .i64 x.k, .int .i64 x.n, .string x.s] 24 (0, 0)
/-- the law's arguments in their boxes -/
structure VO (w : World) (a b : Val) (s0 s1 : Value) (wr : World) : Prop where
  a0 : wr.heap[w.heap.size]? = some (vbx a)
  b0 : wr.heap[w.heap.size + 1]? = some (vbx b)
  l0 : wr.heap[w.heap.size + 1 + 1]? = some (.cells #[s0, s1] 26 (0, 0))
  bel : Below w.heap.size w wr
theorem bheap {w w' : World} {g : Nat} {o : Obj} (h : w.heap[g]? = some o) (hb : Below w.heap.size w w') : w'.heap[g]? = some o := (hb.block g (Array.getElem?_eq_some_iff.1 h).1).trans h
theorem VO.next {w wr wx : World} {a b : Val} {s0 s1 : Value} (h : VO w a b s0 s1 wr) (hb : Below wr.heap.size wr wx) : VO w a b s0 s1 wx :=
  ⟨bheap h.a0 hb, bheap h.b0 hb, bheap h.l0 hb, h.bel.trans (hb.mono h.bel.size)⟩
theorem VO.start (w : World) (a b : Val) (s0 s1 : Value) : VO w a b s0 s1 (((w.alloc (vbx a)).alloc (vbx b)).alloc (.cells #[s0, s1] 26)) := by
  have s2 : (w.alloc (vbx a)).heap.size = w.heap.size + 1 := by simp
  have s3 : ((w.alloc (vbx a)).alloc (vbx b)).heap.size = w.heap.size + 1 + 1 := by simp
  have h0 : (w.alloc (vbx a)).heap[w.heap.size]? = some (vbx a) := heap_alloc_new _ _
  have h1 : ((w.alloc (vbx a)).alloc (vbx b)).heap[w.heap.size + 1]? = some (vbx b) := by rw [← s2]; exact heap_alloc_new _ _
  have h2 : (((w.alloc (vbx a)).alloc (vbx b)).alloc (.cells #[s0, s1] 26)).heap[w.heap.size + 1 + 1]? = some (.cells #[s0, s1] 26 (0, 0)) := by rw [← s3]; exact heap_alloc_new _ _
  exact ⟨bheap (bheap h0 (alloc_below _ _)) (alloc_below _ _), bheap h1 (alloc_below _ _), h2, (alloc2_below _ _ _).alloc (by simp; omega) _⟩
theorem VO.eight {w wr : World} {a b : Val} {s0 s1 : Value} (h : VO w a b s0 s1 wr) : (wr.cell? ⟨w.heap.size, 0, none⟩ = some (.int .i64 a.k) ∧ wr.cell? ⟨w.heap.size, 1, none⟩ = some (.int .i64 a.n) ∧ wr.cell? ⟨w.heap.size, 2, none⟩ = some (.string a.s)) ∧
    (wr.cell? ⟨w.heap.size + 1, 0, none⟩ = some (.int .i64 b.k) ∧ wr.cell? ⟨w.heap.size + 1, 1, none⟩ = some (.int .i64 b.n) ∧ wr.cell? ⟨w.heap.size + 1, 2, none⟩ = some (.string b.s)) ∧
    wr.cell? ⟨w.heap.size + 1 + 1, 0, none⟩ = some s0 ∧ wr.cell? ⟨w.heap.size + 1 + 1, 1, none⟩ = some s1 := by
  refine ⟨box3 h.a0, box3 h.b0, ?_⟩
  have h2 := h.l0
  simp [World.cell?, h2]
set_option maxRecDepth 100000 in
set_option maxHeartbeats 40000000 in
theorem valueOrders_law (a b : Val) (l0 l1 : List Val) (A0 A1 : Option Addr) (c0 c1 : Nat) (w : World) (hE : Env w) (ha : a.s.size ≤ 9223372036854775807) (h0 : RdV w w.heap.size A0 l0) (h1 : RdV w w.heap.size A1 l1) :
    Calls Tryz.prog 3 #[.agg #[.int .i64 a.k, .int .i64 a.n, .string a.s], .agg #[.int .i64 b.k, .int .i64 b.n, .string b.s], .agg #[.slice A0 l0.length c0, .slice A1 l1.length c1]] w (Ans (.bool true) w) := by
  have HE := Lib.hid hE
  have AL := Lib.hid alive_any
  have HS : Hid (VO w a b (.slice A0 l0.length c0) (.slice A1 l1.length c1) (((w.alloc (.cells #[.int .i64 a.k, .int .i64 a.n, .string a.s] 24)).alloc (.cells #[.int .i64 b.k, .int .i64 b.n, .string b.s] 24)).alloc (.cells #[.slice A0 l0.length c0, .slice A1 l1.length c1] 26))) := Lib.hid (VO.start w a b _ _)
  have H0 := Lib.hid h0
  have H1 := Lib.hid h1
  have C1 := Lib.hid (right_at2 a ha)
  have C2 := Lib.hid (refRight_any a ha)
  have C3 := Lib.hid (order_at a b)
  have C4 := Lib.hid (refOrder_any a b)
  clear hE ha h0 h1
  by_cases hok : l0.length ≤ 20 ∧ l1.length ≤ 20 ∧ a.s.size ≤ 500 ∧ b.s.size ≤ 500
  · obtain ⟨k0, k1, k2, k3⟩ := hok
    have C5 := Lib.hid (fun W (hb : Below w.heap.size w W) => rows_any l0 l1 A0 A1 c0 c1 W (by unfold maxLen; omega) ((H0.out.below hb (Nat.le_refl _)).more hb.size) ((H1.out.below hb (Nat.le_refl _)).more hb.size))
    have C6 := Lib.hid (fun W (hb : Below w.heap.size w W) => refRows_any l0 l1 A0 A1 c0 c1 W (by omega) (by omega) ((H0.out.below hb (Nat.le_refl _)).more hb.size) ((H1.out.below hb (Nat.le_refl _)).more hb.size))
    generalize rightB a = rb at *
    generalize ordI a b = ob at *
    generalize rowsI l0 l1 = wb at *
    have i0 : ¬ (20 : Int) < (l0.length : Int) := by omega
    have i1 : ¬ (20 : Int) < (l1.length : Int) := by omega
    have i2 : ¬ (500 : Int) < (a.s.size : Int) := by omega
    have i3 : ¬ (500 : Int) < (b.s.size : Int) := by omega
    have j0 : (l0.length : Int) ≤ 20 := by omega
    have j1 : (l1.length : Int) ≤ 20 := by omega
    have K := Lib.hid (And.intro k0 k1)
    clear k0 k1 k2 k3
    obtain ⟨⟨x0, x1, x2⟩, ⟨y0, y1, y2⟩, z0, z1⟩ := HS.out.eight
    go_enter Tryz.func3, Tryz.ntmps3
    go_wp2_with fail
    generalize (((w.alloc (.cells #[.int .i64 a.k, .int .i64 a.n, .string a.s] 24)).alloc (.cells #[.int .i64 b.k, .int .i64 b.n, .string b.s] 24)).alloc (.cells #[.slice A0 l0.length c0, .slice A1 l1.length c1] 26)) = w1 at *
    clear x0 x1 x2 y0 y1 y2 z0 z1
    go_loopw [7] (fun v7 wr => ∃ i : Nat, v7 = .int .i64 i ∧ i ≤ 2 ∧ VO w a b (.slice A0 l0.length c0) (.slice A1 l1.length c1) wr) (fun v7 _ => 2 - (intOf v7).toNat)
    case atStart => exact ⟨0, rfl, by omega, HS.out⟩
    case round =>
      obtain ⟨i, rfl, hi, ho⟩ := hrel
      have HX := Lib.hid ho
      have hi3 : i = 0 ∨ i = 1 ∨ i = 2 := by omega
      clear hi ho
      rcases hi3 with rfl | rfl | rfl
      · obtain ⟨⟨x0, x1, x2⟩, ⟨y0, y1, y2⟩, z0, z1⟩ := HX.out.eight
        go_wp2_with fail
        clear x0 x1 x2 y0 y1 y2 z0 z1
        go_loopw [8] (fun v8 wt => ∃ k : Nat, v8 = .int .i64 k ∧ k ≤ l0.length ∧ VO w a b (.slice A0 l0.length c0) (.slice A1 l1.length c1) wt) (fun v8 _ => l0.length - (intOf v8).toNat)
        case atStart => exact ⟨0, rfl, Nat.zero_le _, HX.out⟩
        case round =>
          obtain ⟨k, rfl, hk, ho⟩ := hrel
          have HV := Lib.hid ho
          clear ho
          obtain ⟨⟨x0, x1, x2⟩, ⟨y0, y1, y2⟩, z0, z1⟩ := HV.out.eight
          by_cases hlt : k < l0.length
          · have hki : (k : Int) < (l0.length : Int) := by omega
            have hkd : decide (k < l0.length) = true := decide_eq_true hlt
            obtain ⟨x, hx⟩ : ∃ x, l0[k]? = some x := ⟨_, List.getElem?_eq_getElem hlt⟩
            obtain ⟨bq, oq, hA, d0, d1, d2⟩ := H0.out.at_ hx HV.out.bel (Nat.le_refl _)
            subst hA
            have SM := Lib.hid (small_any x)
            clear hx
            by_cases hs : x.s.size ≤ 500
            · rw [decide_eq_true hs] at SM
              clear hs
              go_wp2_with (go_at_call 7; refine (SM.out _).mono ?_; rintro e wv ⟨rfl, hb⟩; have HN := Lib.hid (HV.out.next hb); clear hb)
              go_roundw
              case rel => first | exact ⟨k + 1, by go_num, hlt, HN.out⟩ | ((repeat apply Exists.intro); exact ⟨⟨k + 1, by go_num, hlt, HN.out⟩, rfl⟩)
              case measure => simp [intOf]; omega
            · rw [decide_eq_false hs] at SM
              clear hs
              go_wp2_with (first
                | (go_at_call 7; refine (SM.out _).mono ?_; rintro e wv ⟨rfl, hb⟩; have HN := Lib.hid (HV.out.next hb); clear hb)
                | (go_at_call 6; refine (AL.out _ (HE.out.below HN.out.bel)).mono ?_; rintro e wz ⟨rfl, hb⟩; have HY := Lib.hid (HN.out.bel.trans (hb.mono HN.out.bel.size)); clear hb))
              go_ret
              exact ⟨rfl, HY.out⟩
          · have hnlt : ¬ (k : Int) < (l0.length : Int) := by omega
            have hkd : decide (k < l0.length) = false := decide_eq_false hlt
            clear hlt hk
            go_wp2_with fail
            go_roundw
            case rel => first | exact ⟨1, rfl, by omega, HV.out⟩ | ((repeat apply Exists.intro); exact ⟨⟨1, rfl, by omega, HV.out⟩, rfl⟩)
            case measure => simp [intOf]
      · obtain ⟨⟨x0, x1, x2⟩, ⟨y0, y1, y2⟩, z0, z1⟩ := HX.out.eight
        go_wp2_with fail
        clear x0 x1 x2 y0 y1 y2 z0 z1
        go_loopw [8] (fun v8 wt => ∃ k : Nat, v8 = .int .i64 k ∧ k ≤ l1.length ∧ VO w a b (.slice A0 l0.length c0) (.slice A1 l1.length c1) wt) (fun v8 _ => l1.length - (intOf v8).toNat)
        case atStart => exact ⟨0, rfl, Nat.zero_le _, HX.out⟩
        case round =>
          obtain ⟨k, rfl, hk, ho⟩ := hrel
          have HV := Lib.hid ho
          clear ho
          obtain ⟨⟨x0, x1, x2⟩, ⟨y0, y1, y2⟩, z0, z1⟩ := HV.out.eight
          by_cases hlt : k < l1.length
          · have hki : (k : Int) < (l1.length : Int) := by omega
            have hkd : decide (k < l1.length) = true := decide_eq_true hlt
            obtain ⟨x, hx⟩ : ∃ x, l1[k]? = some x := ⟨_, List.getElem?_eq_getElem hlt⟩
            obtain ⟨bq, oq, hA, d0, d1, d2⟩ := H1.out.at_ hx HV.out.bel (Nat.le_refl _)
            subst hA
            have SM := Lib.hid (small_any x)
            clear hx
            by_cases hs : x.s.size ≤ 500
            · rw [decide_eq_true hs] at SM
              clear hs
              go_wp2_with (go_at_call 7; refine (SM.out _).mono ?_; rintro e wv ⟨rfl, hb⟩; have HN := Lib.hid (HV.out.next hb); clear hb)
              go_roundw
              case rel => first | exact ⟨k + 1, by go_num, hlt, HN.out⟩ | ((repeat apply Exists.intro); exact ⟨⟨k + 1, by go_num, hlt, HN.out⟩, rfl⟩)
              case measure => simp [intOf]; omega
            · rw [decide_eq_false hs] at SM
              clear hs
              go_wp2_with (first
                | (go_at_call 7; refine (SM.out _).mono ?_; rintro e wv ⟨rfl, hb⟩; have HN := Lib.hid (HV.out.next hb); clear hb)
                | (go_at_call 6; refine (AL.out _ (HE.out.below HN.out.bel)).mono ?_; rintro e wz ⟨rfl, hb⟩; have HY := Lib.hid (HN.out.bel.trans (hb.mono HN.out.bel.size)); clear hb))
              go_ret
              exact ⟨rfl, HY.out⟩
          · have hnlt : ¬ (k : Int) < (l1.length : Int) := by omega
            have hkd : decide (k < l1.length) = false := decide_eq_false hlt
            clear hlt hk
            go_wp2_with fail
            go_roundw
            case rel => first | exact ⟨2, rfl, by omega, HV.out⟩ | ((repeat apply Exists.intro); exact ⟨⟨2, rfl, by omega, HV.out⟩, rfl⟩)
            case measure => simp [intOf]
      · obtain ⟨⟨x0, x1, x2⟩, ⟨y0, y1, y2⟩, z0, z1⟩ := HX.out.eight
        go_wp2_with fail
        have HX := Lib.hid (HX.out.next (drew_below _))
        go_region_held3 (fun W => (W.cell? ⟨w.heap.size, 0, none⟩ = some (.int .i64 a.k) ∧ W.cell? ⟨w.heap.size, 1, none⟩ = some (.int .i64 a.n) ∧ W.cell? ⟨w.heap.size, 2, none⟩ = some (.string a.s)) ∧ (W.cell? ⟨w.heap.size + 1, 0, none⟩ = some (.int .i64 b.k) ∧ W.cell? ⟨w.heap.size + 1, 1, none⟩ = some (.int .i64 b.n) ∧ W.cell? ⟨w.heap.size + 1, 2, none⟩ = some (.string b.s)) ∧ W.cell? ⟨w.heap.size + 1 + 1, 0, none⟩ = some (.slice A0 l0.length c0) ∧ W.cell? ⟨w.heap.size + 1 + 1, 1, none⟩ = some (.slice A1 l1.length c1))
          (first | exact HX.out.eight | go_keep)
          (first
            | (go_at_call 6; refine (AL.out _ (HE.out.below HX.out.bel)).mono ?_; rintro e wz ⟨rfl, hb⟩; have HX := Lib.hid (HX.out.next hb); clear hb)
            | (go_at_call 8; refine (C1.out _).mono ?_; rintro e wz ⟨rfl, hb⟩; have HX := Lib.hid (HX.out.next hb); clear hb)
            | (go_at_call 9; refine (C2.out _).mono ?_; rintro e wz ⟨rfl, hb⟩; have HX := Lib.hid (HX.out.next hb); clear hb)
            | (go_at_call 10; refine (C3.out _).mono ?_; rintro e wz ⟨rfl, hb⟩; have HX := Lib.hid (HX.out.next hb); clear hb)
            | (go_at_call 11; refine (C4.out _).mono ?_; rintro e wz ⟨rfl, hb⟩; have HX := Lib.hid (HX.out.next hb); clear hb)
            | (go_at_call 12; refine (C5.out _ HX.out.bel).mono ?_; rintro e wz ⟨rfl, hb⟩; have HX := Lib.hid (HX.out.next hb); clear hb)
            | (go_at_call 13; refine (C6.out _ HX.out.bel).mono ?_; rintro e wz ⟨rfl, hb⟩; have HX := Lib.hid (HX.out.next hb); clear hb))
        go_wp2_with fail
        go_ret
        exact ⟨rfl, HX.out.bel⟩
  · have hc : (20 : Int) < (l0.length : Int) ∨ (¬ (20 : Int) < (l0.length : Int) ∧ (20 : Int) < (l1.length : Int)) ∨ (¬ (20 : Int) < (l0.length : Int) ∧ ¬ (20 : Int) < (l1.length : Int) ∧ (500 : Int) < (a.s.size : Int)) ∨
        (¬ (20 : Int) < (l0.length : Int) ∧ ¬ (20 : Int) < (l1.length : Int) ∧ ¬ (500 : Int) < (a.s.size : Int) ∧ (500 : Int) < (b.s.size : Int)) := by omega
    clear hok
    obtain ⟨⟨x0, x1, x2⟩, ⟨y0, y1, y2⟩, z0, z1⟩ := HS.out.eight
    rcases hc with i0 | ⟨i0, i1⟩ | ⟨i0, i1, i2⟩ | ⟨i0, i1, i2, i3⟩
    all_goals
      go_enter Tryz.func3, Tryz.ntmps3
      go_wp2_with (go_at_call 6; refine (AL.out _ (HE.out.below HS.out.bel)).mono ?_; rintro e wz ⟨rfl, hb⟩; have HY := Lib.hid (HS.out.bel.trans (hb.mono HS.out.bel.size)); clear hb)
      go_ret
      exact ⟨rfl, HY.out⟩
end Go.Proofs.YtaokblhflhlhiaaGreatDoor
