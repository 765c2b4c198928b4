/- The document's Rows of values. -/
import Derived.Test.YtaokblhflhlhiaaGreatDoorRP
namespace Go.Proofs.YtaokblhflhlhiaaGreatDoor
open Go.RowKit

theorem rows_step' {a b : List Val} {k : Nat} {x y : Val} (hx : a[k]? = some x) (hy : b[k]? = some y) : rowsI (a.drop k) (b.drop k) = if ordI x y = 0 then rowsI (a.drop (k + 1)) (b.drop (k + 1)) else ordI x y := by
  have h1 := (List.getElem?_eq_some_iff.1 hx)
  have h2 := (List.getElem?_eq_some_iff.1 hy)
  rw [List.drop_eq_getElem_cons h1.1, List.drop_eq_getElem_cons h2.1, h1.2, h2.2]
  rfl
/-- two values where they lie -/
structure TV (W : World) (b0 o0 : Nat) (x : Val) (b1 o1 : Nat) (y : Val) (k : Nat) : Prop where
  a : W.cell? ⟨b0, o0 + k * 3, none⟩ = some (.int .i64 x.k) ∧ W.cell? ⟨b0, o0 + k * 3 + 1, none⟩ = some (.int .i64 x.n) ∧ W.cell? ⟨b0, o0 + k * 3 + 2, none⟩ = some (.string x.s)
  b : W.cell? ⟨b1, o1 + k * 3, none⟩ = some (.int .i64 y.k) ∧ W.cell? ⟨b1, o1 + k * 3 + 1, none⟩ = some (.int .i64 y.n) ∧ W.cell? ⟨b1, o1 + k * 3 + 2, none⟩ = some (.string y.s)
theorem TV.keep {W V : World} {b0 o0 b1 o1 k : Nat} {x y : Val} (h : TV W b0 o0 x b1 o1 y k) (hb : Below W.heap.size W V) : TV V b0 o0 x b1 o1 y k := by
  have hc : ∀ a v, W.cell? a = some v → V.cell? a = some v := fun a v h1 => by
    have hlt : a.block < W.heap.size := by
      rcases Nat.lt_or_ge a.block W.heap.size with h2 | h2
      · exact h2
      · simp [World.cell?, Array.getElem?_eq_none h2] at h1
    exact (hb.cell hlt).trans h1
  obtain ⟨⟨a0, a1, a2⟩, b0', b1', b2'⟩ := h
  exact ⟨⟨hc _ _ a0, hc _ _ a1, hc _ _ a2⟩, hc _ _ b0', hc _ _ b1', hc _ _ b2'⟩
set_option maxRecDepth 100000 in
set_option maxHeartbeats 8000000 in
theorem refRows_any (a b : List Val) (A C : Option Addr) (cap1 cap2 : Nat) (w : World) (hla : a.length ≤ 1000) (hlb : b.length ≤ 1000) (hr : RdV w w.heap.size A a) (hs : RdV w w.heap.size C b) :
    Calls Tryz.prog 13 #[.slice A a.length cap1, .slice C b.length cap2] w (Ans (.int .i64 (rowsI a b)) w) := by
  have HR := Lib.hid hr
  have HT := Lib.hid hs
  have HS : Hid (RFL w a b (.int .i64 0) w) := Lib.hid ⟨0, rfl, Nat.zero_le _, Nat.zero_le _, rfl, Below.refl _ _⟩
  obtain ⟨res, hres⟩ : ∃ res, Hid (res = rowsI a b) := ⟨_, Lib.hid rfl⟩
  rw [← hres.out]
  have hai : (a.length : Int) ≤ 1000 := by omega
  have hbi : (b.length : Int) ≤ 1000 := by omega
  clear hr hs hla hlb
  go_enter Tryz.func13, Tryz.ntmps13
  go_wp2_with fail
  go_loopw [5] (fun v5 wr => RFL w a b v5 wr) (fun v5 _ => a.length - (intOf v5).toNat)
  case atStart => exact HS.out
  case round =>
    obtain ⟨k, rfl, hk, hkb, he, hb⟩ := hrel
    have HE := Lib.hid he
    have HB := Lib.hid hb
    clear he hb
    by_cases hlt : k < a.length
    · have hki : (k : Int) < (a.length : Int) := by omega
      have hkd : decide (k < a.length) = true := decide_eq_true hlt
      obtain ⟨x, hx⟩ : ∃ x, a[k]? = some x := ⟨_, List.getElem?_eq_getElem hlt⟩
      by_cases hltb : k < b.length
      · have hkbj : (k : Int) < (b.length : Int) := by omega
        have hkbd : decide (k < b.length) = true := decide_eq_true hltb
        obtain ⟨y, hy⟩ : ∃ y, b[k]? = some y := ⟨_, List.getElem?_eq_getElem hltb⟩
        obtain ⟨b0, o0, hA, c0, c1, c2⟩ := HR.out.at_ hx HB.out (Nat.le_refl _)
        obtain ⟨b1, o1, hC, d0, d1, d2⟩ := HT.out.at_ hy HB.out (Nat.le_refl _)
        subst hA hC
        have HST := Lib.hid (rows_step' hx hy)
        have OA := Lib.hid (refOrder_any x y)
        have HTV : Hid (TV wr b0 o0 x b1 o1 y k) := Lib.hid ⟨⟨c0, c1, c2⟩, d0, d1, d2⟩
        have HBR := Lib.hid (drew_below wr)
        by_cases h0 : ordI x y = 0
        · rw [h0] at OA
          have HN : Hid (∀ v5 w2, v5 = .int .i64 ((k + 1 : Nat) : Int) → Below wr.heap.size wr w2 → RFL w a b v5 w2) := Lib.hid fun v5 w2 h5 hb2 => ⟨k + 1, h5, hlt, hltb, by rw [HE.out, HST.out, if_pos h0], HB.out.trans (hb2.mono HB.out.size)⟩
          clear h0 hx hy hk hkb
          go_wp2_with fail
          go_region_held3 (fun W => (W.cell? ⟨b0, o0 + k * 3, none⟩ = some (.int .i64 x.k) ∧ W.cell? ⟨b0, o0 + k * 3 + 1, none⟩ = some (.int .i64 x.n) ∧ W.cell? ⟨b0, o0 + k * 3 + 2, none⟩ = some (.string x.s)) ∧
              W.cell? ⟨b1, o1 + k * 3, none⟩ = some (.int .i64 y.k) ∧ W.cell? ⟨b1, o1 + k * 3 + 1, none⟩ = some (.int .i64 y.n) ∧ W.cell? ⟨b1, o1 + k * 3 + 2, none⟩ = some (.string y.s))
            (first | exact ⟨HTV.out.a, HTV.out.b⟩ | go_keep)
            ((go_at_call 11
              refine (OA.out _).mono ?_
              rintro e w2 ⟨rfl, hb2⟩
              have HTV := Lib.hid (HTV.out.keep (HBR.out.trans (hb2.mono HBR.out.size)))
              have HBR := Lib.hid (HBR.out.trans (hb2.mono HBR.out.size))
              clear hb2))
          go_wp2_with fail
          go_roundw
          case rel => first | exact HN.out _ _ (by go_num) HBR.out | ((repeat apply Exists.intro); exact ⟨HN.out _ _ (by go_num) HBR.out, rfl⟩)
          case measure => simp [intOf]; omega
        · have hz : (ordI x y == 0) = false := beq_false_of_ne h0
          have HRE : Hid (ordI x y = res) := Lib.hid (by rw [hres.out, HE.out, HST.out, if_neg h0])
          rw [HRE.out] at OA hz
          have hz2 : (res != 0) = true := by rw [bne, hz]; rfl
          clear h0 hx hy hk hkb
          go_wp2_with fail
          go_region_held3 (fun W => (W.cell? ⟨b0, o0 + k * 3, none⟩ = some (.int .i64 x.k) ∧ W.cell? ⟨b0, o0 + k * 3 + 1, none⟩ = some (.int .i64 x.n) ∧ W.cell? ⟨b0, o0 + k * 3 + 2, none⟩ = some (.string x.s)) ∧
              W.cell? ⟨b1, o1 + k * 3, none⟩ = some (.int .i64 y.k) ∧ W.cell? ⟨b1, o1 + k * 3 + 1, none⟩ = some (.int .i64 y.n) ∧ W.cell? ⟨b1, o1 + k * 3 + 2, none⟩ = some (.string y.s))
            (first | exact ⟨HTV.out.a, HTV.out.b⟩ | go_keep)
            ((go_at_call 11
              refine (OA.out _).mono ?_
              rintro e w2 ⟨rfl, hb2⟩
              have HTV := Lib.hid (HTV.out.keep (HBR.out.trans (hb2.mono HBR.out.size)))
              have HBR := Lib.hid (HBR.out.trans (hb2.mono HBR.out.size))
              clear hb2))
          go_wp2_with fail
          go_ret
          exact ⟨rfl, HB.out.trans (HBR.out.mono HB.out.size)⟩
      · have hkbe : k = b.length := by omega
        have hkbi : ¬ (k : Int) < (b.length : Int) := by omega
        have hkbd : decide (k < b.length) = false := decide_eq_false hltb
        have hab : ¬ (a.length : Int) < (b.length : Int) := by omega
        have hab2 : (b.length : Int) < (a.length : Int) := by omega
        have HRE : Hid (res = 1) := Lib.hid (by
          rw [hres.out, HE.out, hkbe, List.drop_length]
          rw [List.drop_eq_getElem_cons (show b.length < a.length by omega)]
          rfl)
        clear hkbe hx hk hkb hltb
        go_wp2_with fail
        go_ret
        exact ⟨(by rw [HRE.out]; rfl), HB.out⟩
    · have hkl : k = a.length := by omega
      subst hkl
      have hnlt : ¬ ((a.length : Int) < (a.length : Int)) := by omega
      by_cases hlb : a.length < b.length
      · have hlbi : (a.length : Int) < (b.length : Int) := by omega
        have HRE : Hid (res = -1) := Lib.hid (by
          rw [hres.out, HE.out, List.drop_length]
          rw [List.drop_eq_getElem_cons hlb]
          rfl)
        clear hlt hk hkb hlb
        go_wp2_with fail
        go_ret
        exact ⟨(by rw [HRE.out]; rfl), HB.out⟩
      · have hlbi : ¬ (a.length : Int) < (b.length : Int) := by omega
        have hlbj : ¬ (b.length : Int) < (a.length : Int) := by omega
        have HRE : Hid (res = 0) := Lib.hid (by
          rw [hres.out, HE.out, List.drop_length, List.drop_eq_nil_of_le (by omega)]
          rfl)
        clear hlt hk hkb hlb
        go_wp2_with fail
        go_ret
        exact ⟨(by rw [HRE.out]; rfl), HB.out⟩
end Go.Proofs.YtaokblhflhlhiaaGreatDoor
