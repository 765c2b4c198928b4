/- Package letter: Same. -/
import Derived.Test.YtbbhddpfclgohaaZB
namespace Go.Proofs.Ytbbhddpfclgohaa
open Go.RowKit

def LooksNL (v : Value) (w : World) : Ending → World → Prop := fun e w' => e = .returned v ∧ ∃ n, w' = w.drewN n
/-- at the head of Equal's loop -/
def EqLp (w : World) (ns ms : List Int) (v13 : Value) (wr : World) : Prop := ∃ i k : Nat, v13 = .int .i64 (i : Int) ∧ i ≤ ns.length ∧ (∀ j, j < i → ns[j]? = ms[j]?) ∧ wr = w.drewN k
set_option maxRecDepth 100000 in
set_option maxHeartbeats 4000000 in
theorem equal_any {w : World} {A0 A1 : Option Addr} {n0 n1 c0 c1 : Nat} {ns ms : List Int} (h0 : RdI w w.heap.size A0 ns) (h1 : RdI w w.heap.size A1 ms) (hn0 : ns.length = n0) (hn1 : ms.length = n1) (hs0 : n0 ≤ 1000000) (hs1 : n1 ≤ 1000000) :
    Calls Try.prog 24 #[.slice A0 n0 c0, .slice A1 n1 c1] w (LooksNL (.bool (decide (ns = ms))) w) := by
  have H0 := Lib.hid h0
  have H1 := Lib.hid h1
  obtain ⟨r, hr⟩ : ∃ r, Hid (r = decide (ns = ms)) := ⟨_, Lib.hid rfl⟩
  rw [← hr.out]
  have hi0 : (n0 : Int) ≤ 1000000 := by omega
  have hi1 : (n1 : Int) ≤ 1000000 := by omega
  by_cases hl : n0 = n1
  · subst hl
    have HN0 := Lib.hid hn0
    have HN1 := Lib.hid hn1
    have HST : Hid (EqLp w ns ms (.int .i64 0) w) := Lib.hid ⟨0, 0, rfl, Nat.zero_le _, fun j hj => absurd hj (Nat.not_lt_zero _), rfl⟩
    clear h0 h1 hn0 hn1
    go_enter Try.func24, Try.ntmps24
    go_wp2_with fail
    go_loopw [13] (fun v13 wr => EqLp w ns ms v13 wr) (fun v13 _ => n0 - (intOf v13).toNat)
    case atStart => exact HST.out
    case round =>
      obtain ⟨i, k, rfl, hi, hlo, hw⟩ := hrel
      have HLO := Lib.hid hlo
      have HW := Lib.hid hw
      clear hlo hw
      rw [HN0.out] at hi
      by_cases hlt : i < n0
      · have hlti : (i : Int) < (n0 : Int) := by omega
        obtain ⟨x, hx⟩ : ∃ x, ms[i]? = some x := ⟨_, List.getElem?_eq_getElem (by rw [HN1.out]; exact hlt)⟩
        obtain ⟨n, hn⟩ : ∃ n, ns[i]? = some n := ⟨_, List.getElem?_eq_getElem (by rw [HN0.out]; exact hlt)⟩
        obtain ⟨b0, o0, hA0, _, d0⟩ := H0.out.at_ hn
        obtain ⟨b1, o1, hA1, _, d1⟩ := H1.out.at_ hx
        subst hA0 hA1
        have d0 : wr.cell? ⟨b0, o0 + i, none⟩ = some (.int .i64 n) := by rw [← d0, HW.out]; rfl
        have d1 : wr.cell? ⟨b1, o1 + i, none⟩ = some (.int .i64 x) := by rw [← d1, HW.out]; rfl
        have hi00 : 0 ≤ (i : Int) := by omega
        by_cases hnm : n = x
        · subst hnm
          have HY : Hid (∀ v13 k2, v13 = .int .i64 ((i + 1 : Nat) : Int) → EqLp w ns ms v13 (wr.drewN k2)) := Lib.hid fun v13 k2 h5 => ⟨i + 1, k + k2, h5, by rw [HN0.out]; exact hlt, fun j hj => by
            rcases Nat.lt_or_ge j i with h | h
            · exact HLO.out j h
            · have : j = i := by omega
              subst this
              rw [hn, hx], by rw [HW.out, World.drewN_drewN]⟩
          clear hx hn hi
          go_wp2_with fail
          go_quiet (fail)
          go_wp2_with fail
          go_roundw
          case rel => first | exact HY.out _ _ (by go_num) | ((repeat apply Exists.intro); exact ⟨HY.out _ _ (by go_num), rfl⟩)
          case measure => simp [intOf]; omega
        · have HY : Hid (r = false) := Lib.hid (hr.out.trans (decide_eq_false (fun e => by rw [e, hx] at hn; injection hn with hn; exact hnm hn.symm)))
          have HZ : Hid (∀ k2, ∃ j, wr.drewN k2 = w.drewN j) := Lib.hid fun k2 => ⟨k + k2, by rw [HW.out, World.drewN_drewN]⟩
          clear hx hn hi
          go_wp2_with fail
          go_quiet (fail)
          go_wp2_with fail
          go_ret
          exact ⟨by rw [HY.out]; rfl, HZ.out _⟩
      · have hie : i = n0 := by omega
        subst hie
        have hlti : ¬ (i : Int) < (i : Int) := by omega
        have HY : Hid (r = true) := Lib.hid (hr.out.trans (decide_eq_true (List.ext_getElem? fun j => by
          rcases Nat.lt_or_ge j i with h | h
          · exact HLO.out j h
          · rw [List.getElem?_eq_none (by rw [HN0.out]; exact h), List.getElem?_eq_none (by rw [HN1.out]; exact h)])))
        clear hi
        go_wp2_with fail
        go_ret
        exact ⟨by rw [HY.out]; rfl, _, HW.out⟩
  · have hli : ¬ (n0 : Int) = (n1 : Int) := by omega
    have HY : Hid (r = false) := Lib.hid (hr.out.trans (decide_eq_false (fun e => hl (by rw [← hn0, ← hn1, e]))))
    clear h0 h1 hn0 hn1
    go_enter Try.func24, Try.ntmps24
    go_wp2_with fail
    go_ret
    exact ⟨by rw [HY.out]; rfl, 0, rfl⟩
def sameL (a b : Ltr) : Bool := decide (a.k = b.k) && (decide (a.f = b.f) && (decide (a.t = b.t) && (decide (a.x = b.x) && decide (a.ns = b.ns))))
theorem sameL_eq (a b : Ltr) : sameL a b = true ↔ a = b := by
  unfold sameL
  simp only [Bool.and_eq_true, decide_eq_true_eq]
  exact ⟨fun ⟨h1, h2, h3, h4, h5⟩ => Ltr.ext' h1 h2 h3 h4 h5, fun h => by subst h; simp⟩
set_option maxRecDepth 100000 in
set_option maxHeartbeats 4000000 in
theorem sameL_any (a b : Ltr) (A B : Option Addr) (n m c d : Nat) (hn : a.ns.length = n) (hm : b.ns.length = m) (hn2 : n ≤ 1000000) (hm2 : m ≤ 1000000) (w : World) (hr : RdI w w.heap.size A a.ns) (hs : RdI w w.heap.size B b.ns) :
    Calls Try.prog 15 #[.agg #[.int .i64 a.k, .int .i64 a.f, .int .i64 a.t, .int .i64 a.x, .slice A n c], .agg #[.int .i64 b.k, .int .i64 b.f, .int .i64 b.t, .int .i64 b.x, .slice B m d]] w (Ans (.bool (sameL a b)) w) := by
  obtain ⟨k, f, t, x, ns⟩ := a
  obtain ⟨k', f', t', x', ms⟩ := b
  simp only at hn hm hr hs ⊢
  obtain ⟨o0, ho0⟩ : ∃ o0, o0 = Obj.cells #[.int .i64 k, .int .i64 f, .int .i64 t, .int .i64 x, .slice A n c] 25 := ⟨_, rfl⟩
  obtain ⟨o1, ho1⟩ : ∃ o1, o1 = Obj.cells #[.int .i64 k', .int .i64 f', .int .i64 t', .int .i64 x', .slice B m d] 25 := ⟨_, rfl⟩
  have hb := alloc2_below w o0 o1
  have HB := Lib.hid hb
  have hx0 : ((w.alloc o0).alloc o1).heap[w.heap.size]? = some o0 := ((alloc_below (w.alloc o0) o1).block _ (by simp)).trans (heap_alloc_new w o0)
  have hx1 : ((w.alloc o0).alloc o1).heap[w.heap.size + 1]? = some o1 := by
    have h := heap_alloc_new (w.alloc o0) o1
    rw [show (w.alloc o0).heap.size = w.heap.size + 1 by simp] at h
    exact h
  have HE := Lib.hid (equal_any (c0 := c) (c1 := d) ((hr.below hb (Nat.le_refl _)).more hb.size) ((hs.below hb (Nat.le_refl _)).more hb.size) hn hm hn2 hm2)
  rw [ho0, ho1] at hx0 hx1
  obtain ⟨x0, x1, x2, x3, x4⟩ := box5 hx0
  obtain ⟨y0, y1, y2, y3, y4⟩ := box5 hx1
  unfold sameL
  simp only
  clear hr hs hn hm hn2 hm2 hb hx0 hx1
  subst ho0 ho1
  by_cases hk : k = k'
  · have k1 : (k == k') = true := by simpa using hk
    rw [decide_eq_true hk, Bool.true_and]
    by_cases hf : f = f'
    · have k2 : (f == f') = true := by simpa using hf
      rw [decide_eq_true hf, Bool.true_and]
      by_cases ht : t = t'
      · have k3 : (t == t') = true := by simpa using ht
        rw [decide_eq_true ht, Bool.true_and]
        by_cases hx : x = x'
        · have k4 : (x == x') = true := by simpa using hx
          rw [decide_eq_true hx, Bool.true_and]
          clear hk hf ht hx
          go_enter Try.func15, Try.ntmps15
          go_wp2_with (go_at_call 24; refine HE.out.mono ?_; rintro e w2 ⟨rfl, j, rfl⟩; have HY := Lib.hid (HB.out.trans ((drewN_below _ j).mono HB.out.size)))
          go_ret
          exact ⟨rfl, HY.out⟩
        · have k4 : (x == x') = false := by simpa using hx
          rw [decide_eq_false hx, Bool.false_and]
          clear hk hf ht hx
          go_enter Try.func15, Try.ntmps15
          go_wp2_with fail
          go_ret
          exact ⟨rfl, HB.out⟩
      · have k3 : (t == t') = false := by simpa using ht
        rw [decide_eq_false ht, Bool.false_and]
        clear hk hf ht
        go_enter Try.func15, Try.ntmps15
        go_wp2_with fail
        go_ret
        exact ⟨rfl, HB.out⟩
    · have k2 : (f == f') = false := by simpa using hf
      rw [decide_eq_false hf, Bool.false_and]
      clear hk hf
      go_enter Try.func15, Try.ntmps15
      go_wp2_with fail
      go_ret
      exact ⟨rfl, HB.out⟩
  · have k1 : (k == k') = false := by simpa using hk
    rw [decide_eq_false hk, Bool.false_and]
    clear hk
    go_enter Try.func15, Try.ntmps15
    go_wp2_with fail
    go_ret
    exact ⟨rfl, HB.out⟩
end Go.Proofs.Ytbbhddpfclgohaa
