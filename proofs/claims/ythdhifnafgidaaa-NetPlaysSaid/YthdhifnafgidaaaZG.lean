/- Layer 11's live question; the document's Same. -/
import Derived.Test.YthdhifnafgidaaaZE
import Derived.Test.YthdhifnafgidaaaZF
import Derived.Test.YthdhifnafgidaaaKY
namespace Go.Proofs.Ythdhifnafgidaaa
open Go.RowKit

def aliveZ : Ltr := ⟨1, 1, 2, 3, [0, 2]⟩
theorem aliveZ_bytes : aliveZ.bytes = [5, 2, 2, 2, 2, 2, 4, 2, 6, 2, 10] := by
  have e1 : zig 1 = 2 := by decide
  have e2 : zig 2 = 4 := by decide
  have e3 : zig 3 = 6 := by decide
  have e5 : zig 5 = 10 := by decide
  have e0 : orB 0 [0, 2] = 5 := by decide
  have v2 : vL 2 = [2] := by rw [vL_lo (by decide)]; rfl
  have v4 : vL 4 = [4] := by rw [vL_lo (by decide)]; rfl
  have v6 : vL 6 = [6] := by rw [vL_lo (by decide)]; rfl
  have v10 : vL 10 = [10] := by rw [vL_lo (by decide)]; rfl
  simp [Ltr.bytes, Ltr.row, aliveZ, rowB, rowL, rowV, bodyR, intV, e0, e1, e2, e3, e5, v2, v4, v6, v10]
theorem aliveZ_rd (w : World) : RdI (w.alloc (.cells #[.int .i64 0, .int .i64 2] 3)) (w.alloc (.cells #[.int .i64 0, .int .i64 2] 3)).heap.size (some ⟨w.heap.size, 0, none⟩) [0, 2] := fun _ => by
  have hh : (w.alloc (.cells #[.int .i64 0, .int .i64 2] 3)).heap[w.heap.size]? = _ := heap_alloc_new w _
  refine ⟨_, 0, rfl, by simp, fun j x hx => ?_⟩
  rw [cell_of_row _ _ _ _ _ (0, 0) hh]
  match j with
  | 0 => simp at hx; subst hx; rfl
  | 1 => simp at hx; subst hx; rfl
  | j + 2 => simp at hx
/-- at the head of the document's loop -/
def SmZ (W0 : World) (ns ms : List Int) (v5 : Value) (wr : World) : Prop := ∃ i k : Nat, v5 = .int .i64 (i : Int) ∧ i ≤ ns.length ∧ (∀ j, j < i → ns[j]? = ms[j]?) ∧ wr = W0.drewN k
set_option maxRecDepth 100000 in
set_option maxHeartbeats 4000000 in
theorem refSameL_any (a b : Ltr) (A B : Option Addr) (n m c d : Nat) (hn : a.ns.length = n) (hm : b.ns.length = m) (hn2 : n ≤ 1000000) (hm2 : m ≤ 1000000) (w : World) (hr : RdI w w.heap.size A a.ns) (hs : RdI w w.heap.size B b.ns) :
    Calls Try.prog 14 #[.agg #[.int .i64 a.k, .int .i64 a.f, .int .i64 a.t, .int .i64 a.x, .slice A n c], .agg #[.int .i64 b.k, .int .i64 b.f, .int .i64 b.t, .int .i64 b.x, .slice B m d]] w (Ans (.bool (sameL a b)) w) := by
  obtain ⟨k, f, t, x, ns⟩ := a
  obtain ⟨k', f', t', x', ms⟩ := b
  simp only at hn hm hr hs ⊢
  obtain ⟨o0, ho0⟩ : ∃ o0, o0 = Obj.cells #[.int .i64 k, .int .i64 f, .int .i64 t, .int .i64 x, .slice A n c] 32 := ⟨_, rfl⟩
  obtain ⟨o1, ho1⟩ : ∃ o1, o1 = Obj.cells #[.int .i64 k', .int .i64 f', .int .i64 t', .int .i64 x', .slice B m d] 32 := ⟨_, rfl⟩
  have hb := alloc2_below w o0 o1
  have HB := Lib.hid hb
  have hx0 : ((w.alloc o0).alloc o1).heap[w.heap.size]? = some o0 := ((alloc_below (w.alloc o0) o1).block _ (by simp)).trans (heap_alloc_new w o0)
  have hx1 : ((w.alloc o0).alloc o1).heap[w.heap.size + 1]? = some o1 := by
    have h := heap_alloc_new (w.alloc o0) o1
    rw [show (w.alloc o0).heap.size = w.heap.size + 1 by simp] at h
    exact h
  have H0 := Lib.hid (hr.below hb (Nat.le_refl _))
  have H1 := Lib.hid (hs.below hb (Nat.le_refl _))
  have HN0 := Lib.hid hn
  have HN1 := Lib.hid hm
  have hi0 : (n : Int) ≤ 1000000 := by omega
  have hi1 : (m : Int) ≤ 1000000 := by omega
  rw [ho0, ho1] at hx0 hx1
  obtain ⟨x0, x1, x2, x3, x4⟩ := box5 hx0
  obtain ⟨y0, y1, y2, y3, y4⟩ := box5 hx1
  have HX0 := Lib.hid hx0
  have HX1 := Lib.hid hx1
  unfold sameL
  simp only
  clear hr hs hn2 hm2 hb hx0 hx1
  subst ho0 ho1
  by_cases hk : k = k'
  · have k1 : (k != k') = false := by simpa using hk
    rw [decide_eq_true hk, Bool.true_and]
    by_cases hf : f = f'
    · have k2 : (f != f') = false := by simpa using hf
      rw [decide_eq_true hf, Bool.true_and]
      by_cases ht : t = t'
      · have k3 : (t != t') = false := by simpa using ht
        rw [decide_eq_true ht, Bool.true_and]
        by_cases hx : x = x'
        · have k4 : (x != x') = false := by simpa using hx
          rw [decide_eq_true hx, Bool.true_and]
          by_cases hnm : n = m
          · have k5 : ((n : Int) != (m : Int)) = false := by rw [hnm]; simp
            obtain ⟨r, hr⟩ : ∃ r, Hid (r = decide (ns = ms)) := ⟨_, Lib.hid rfl⟩
            rw [← hr.out]
            have HNM := Lib.hid hnm
            have HST : Hid (SmZ ((w.alloc (.cells #[.int .i64 k, .int .i64 f, .int .i64 t, .int .i64 x, .slice A n c] 32)).alloc (.cells #[.int .i64 k', .int .i64 f', .int .i64 t', .int .i64 x', .slice B m d] 32)) ns ms (.int .i64 0) ((w.alloc (.cells #[.int .i64 k, .int .i64 f, .int .i64 t, .int .i64 x, .slice A n c] 32)).alloc (.cells #[.int .i64 k', .int .i64 f', .int .i64 t', .int .i64 x', .slice B m d] 32))) := Lib.hid ⟨0, 0, rfl, Nat.zero_le _, fun j hj => absurd hj (Nat.not_lt_zero _), rfl⟩
            clear hk hf ht hx hnm hn hm
            go_enter Try.func14, Try.ntmps14
            go_wp2_with fail
            generalize hW0 : (w.alloc (.cells #[.int .i64 k, .int .i64 f, .int .i64 t, .int .i64 x, .slice A n c] 32)).alloc (.cells #[.int .i64 k', .int .i64 f', .int .i64 t', .int .i64 x', .slice B m d] 32) = W0 at *
            clear hW0 x0 x1 x2 x3 x4 y0 y1 y2 y3 y4 k1 k2 k3 k4 k5
            go_loopw [5] (fun v5 wr => SmZ W0 ns ms v5 wr) (fun v5 _ => n - (intOf v5).toNat)
            case atStart => exact HST.out
            case round =>
              obtain ⟨i, q, rfl, hi, hlo, hw⟩ := hrel
              have HLO := Lib.hid hlo
              have HW := Lib.hid hw
              have x4 : wr.cell? ⟨w.heap.size, 4, none⟩ = some (.slice A n c) := by rw [hw]; exact (box5 HX0.out).2.2.2.2
              have y4 : wr.cell? ⟨w.heap.size + 1, 4, none⟩ = some (.slice B m d) := by rw [hw]; exact (box5 HX1.out).2.2.2.2
              clear hlo hw
              rw [HN0.out] at hi
              by_cases hlt : i < n
              · have hlti : (i : Int) < (n : Int) := by omega
                have hltm : (i : Int) < (m : Int) := by have := HNM.out; omega
                obtain ⟨z, hz⟩ : ∃ x, ms[i]? = some x := ⟨_, List.getElem?_eq_getElem (by rw [HN1.out, ← HNM.out]; exact hlt)⟩
                obtain ⟨y, hy⟩ : ∃ y, ns[i]? = some y := ⟨_, List.getElem?_eq_getElem (by rw [HN0.out]; exact hlt)⟩
                obtain ⟨b0, o0, hA0, _, d0⟩ := H0.out.at_ hy
                obtain ⟨b1, o1, hA1, _, d1⟩ := H1.out.at_ hz
                subst hA0 hA1
                have d0 : wr.cell? ⟨b0, o0 + i, none⟩ = some (.int .i64 y) := by rw [← d0, HW.out]; rfl
                have d1 : wr.cell? ⟨b1, o1 + i, none⟩ = some (.int .i64 z) := by rw [← d1, HW.out]; rfl
                have hi00 : 0 ≤ (i : Int) := by omega
                by_cases hyz : y = z
                · subst hyz
                  have HY : Hid (∀ v5 k2, v5 = .int .i64 ((i + 1 : Nat) : Int) → SmZ W0 ns ms v5 (wr.drewN k2)) := Lib.hid fun v5 k2 h5 => ⟨i + 1, q + k2, h5, by rw [HN0.out]; exact hlt, fun j hj => by
                    rcases Nat.lt_or_ge j i with h | h
                    · exact HLO.out j h
                    · have : j = i := by omega
                      subst this
                      rw [hy, hz], by rw [HW.out, World.drewN_drewN]⟩
                  clear hz hy hi
                  go_wp2_with fail
                  go_quiet (fail)
                  go_wp2_with fail
                  go_roundw
                  case rel => first | exact HY.out _ _ (by go_num) | ((repeat apply Exists.intro); exact ⟨HY.out _ _ (by go_num), rfl⟩)
                  case measure => simp [intOf]; omega
                · have HY : Hid (r = false) := Lib.hid (hr.out.trans (decide_eq_false (fun e => by rw [e, hz] at hy; injection hy with hy; exact hyz hy.symm)))
                  have HZ : Hid (∀ k2, Below w.heap.size w (wr.drewN k2)) := Lib.hid fun k2 => HB.out.trans (by rw [HW.out, World.drewN_drewN]; exact (drewN_below _ _).mono HB.out.size)
                  clear hz hy hi
                  go_wp2_with fail
                  go_quiet (fail)
                  go_wp2_with fail
                  go_ret
                  exact ⟨by rw [HY.out]; rfl, HZ.out _⟩
              · have hie : i = n := by omega
                subst hie
                have hlti : ¬ (i : Int) < (i : Int) := by omega
                have HY : Hid (r = true) := Lib.hid (hr.out.trans (decide_eq_true (List.ext_getElem? fun j => by
                  rcases Nat.lt_or_ge j i with h | h
                  · exact HLO.out j h
                  · rw [List.getElem?_eq_none (by rw [HN0.out]; exact h), List.getElem?_eq_none (by rw [HN1.out, ← HNM.out]; exact h)])))
                have HZ : Hid (Below w.heap.size w wr) := Lib.hid (HB.out.trans (by rw [HW.out]; exact (drewN_below _ _).mono HB.out.size))
                clear hi
                go_wp2_with fail
                go_ret
                exact ⟨by rw [HY.out]; rfl, HZ.out⟩
          · have k5 : ((n : Int) != (m : Int)) = true := by simpa using (by omega : ¬ (n : Int) = m)
            have HY : Hid (decide (ns = ms) = false) := Lib.hid (decide_eq_false (fun e => hnm (by rw [← hn, ← hm, e])))
            rw [HY.out]
            clear hk hf ht hx hnm hn hm
            go_enter Try.func14, Try.ntmps14
            go_wp2_with fail
            go_ret
            exact ⟨rfl, HB.out⟩
        · have k4 : (x != x') = true := by simpa using hx
          rw [decide_eq_false hx, Bool.false_and]
          clear hk hf ht hx
          go_enter Try.func14, Try.ntmps14
          go_wp2_with fail
          go_ret
          exact ⟨rfl, HB.out⟩
      · have k3 : (t != t') = true := by simpa using ht
        rw [decide_eq_false ht, Bool.false_and]
        clear hk hf ht
        go_enter Try.func14, Try.ntmps14
        go_wp2_with fail
        go_ret
        exact ⟨rfl, HB.out⟩
    · have k2 : (f != f') = true := by simpa using hf
      rw [decide_eq_false hf, Bool.false_and]
      clear hk hf
      go_enter Try.func14, Try.ntmps14
      go_wp2_with fail
      go_ret
      exact ⟨rfl, HB.out⟩
  · have k1 : (k != k') = true := by simpa using hk
    rw [decide_eq_false hk, Bool.false_and]
    clear hk
    go_enter Try.func14, Try.ntmps14
    go_wp2_with fail
    go_ret
    exact ⟨rfl, HB.out⟩
end Go.Proofs.Ythdhifnafgidaaa
