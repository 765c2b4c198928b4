/- The document's numbers of any size: Of, less, Sign. -/
import Derived.Test.YtjfbhajaddgmpaaDoorNX
import Derived.Test.YtjfbhajaddgmpaaDoorNT
import Derived.Test.YtjfbhajaddgmpaaDoorNCB
namespace Go.Proofs.YtjfbhajaddgmpaaDoor
open Go.RowKit
attribute [local go_sem ↓] eqD

/-- a number's cells: its sign, six digits -/
def bigC (m : Bool) (a b c d e f : Int) : Array Value := #[.bool m, .int .u64 a, .int .u64 b, .int .u64 c, .int .u64 d, .int .u64 e, .int .u64 f]
theorem box7 {w : World} {g : Nat} {m : Bool} {a b c d e f : Int} {t : TypeId} {fr : Nat × Nat} (h : w.heap[g]? = some (.cells (bigC m a b c d e f) t fr)) :
    w.cell? ⟨g, 0, none⟩ = some (.bool m) ∧ w.cell? ⟨g, 1, none⟩ = some (.int .u64 a) ∧ w.cell? ⟨g, 2, none⟩ = some (.int .u64 b) ∧ w.cell? ⟨g, 3, none⟩ = some (.int .u64 c) ∧ w.cell? ⟨g, 4, none⟩ = some (.int .u64 d) ∧ w.cell? ⟨g, 5, none⟩ = some (.int .u64 e) ∧ w.cell? ⟨g, 6, none⟩ = some (.int .u64 f) := by
  unfold bigC at h
  simp [World.cell?, h]
set_option maxRecDepth 100000 in
set_option maxHeartbeats 4000000 in
theorem refBig_of (n : Int) (hn : i64ok n) (w : World) : Calls Tryd.prog 43 #[.int .i64 n] w (Ans (.agg (bigC (decide (n < 0)) ((n.natAbs % 4294967296 : Nat) : Int) ((n.natAbs / 4294967296 : Nat) : Int) 0 0 0 0)) w) := by
  obtain ⟨h1, h2⟩ := hn
  obtain ⟨p, hp⟩ : ∃ p : Int, Hid (p = ((n.natAbs % 4294967296 : Nat) : Int)) := ⟨_, Lib.hid rfl⟩
  obtain ⟨q, hq⟩ : ∃ q : Int, Hid (q = ((n.natAbs / 4294967296 : Nat) : Int)) := ⟨_, Lib.hid rfl⟩
  rw [← hp.out, ← hq.out]
  have HP := Lib.hid (And.intro h1 h2)
  by_cases h : n < 0
  · rw [decide_eq_true h]
    have ep : (-(n + 1) + 1) % 4294967296 = p := by rw [hp.out]; omega
    have eq : (-(n + 1) + 1) / 4294967296 = q := by rw [hq.out]; omega
    clear hp hq
    go_enter Tryd.func43, Tryd.ntmps43
    go_wp2_with fail
    exact bodyPost_ret (v := .agg (bigC true p q 0 0 0 0)) (by simp [results, Tryd.results43, go_sem, bigC]) rfl ⟨rfl, alloc2_below _ _ _⟩
  · rw [decide_eq_false h]
    have ep : n % 4294967296 = p := by rw [hp.out]; omega
    have eq : n / 4294967296 = q := by rw [hq.out]; omega
    clear hp hq
    go_enter Tryd.func43, Tryd.ntmps43
    go_wp2_with fail
    exact bodyPost_ret (v := .agg (bigC false p q 0 0 0 0)) (by simp [results, Tryd.results43, go_sem, bigC]) rfl ⟨rfl, alloc2_below _ _ _⟩
/-- six digits of which three may not be nought -/
def digC (a b c : Int) : Array Value := #[.int .u64 a, .int .u64 b, .int .u64 c, .int .u64 0, .int .u64 0, .int .u64 0]
def digO (a b c : Int) : Obj := .cells #[.int .u64 a, .int .u64 b, .int .u64 c, .int .u64 0, .int .u64 0, .int .u64 0] 56 (0, 0)
theorem box6 {w : World} {g : Nat} {a b c : Int} (h : w.heap[g]? = some (digO a b c)) :
    w.cell? ⟨g, 0, none⟩ = some (.int .u64 a) ∧ w.cell? ⟨g, 1, none⟩ = some (.int .u64 b) ∧ w.cell? ⟨g, 2, none⟩ = some (.int .u64 c) ∧ w.cell? ⟨g, 3, none⟩ = some (.int .u64 0) ∧ w.cell? ⟨g, 4, none⟩ = some (.int .u64 0) ∧ w.cell? ⟨g, 5, none⟩ = some (.int .u64 0) := by
  unfold digO at h
  simp [World.cell?, h]
def lessB (a b c x y z : Int) : Bool := if c ≠ z then decide (c < z) else if b ≠ y then decide (b < y) else decide (a < x)
structure LZ (w W : World) (a b c x y z : Int) : Prop where
  p : W.heap[w.heap.size]? = some (digO a b c)
  q : W.heap[w.heap.size + 1]? = some (digO x y z)
  bel : Below w.heap.size w W
theorem LZ.new (w : World) (a b c x y z : Int) : LZ w ((w.alloc (.cells #[.int .u64 a, .int .u64 b, .int .u64 c, .int .u64 0, .int .u64 0, .int .u64 0] 56)).alloc (.cells #[.int .u64 x, .int .u64 y, .int .u64 z, .int .u64 0, .int .u64 0, .int .u64 0] 56)) a b c x y z := by
  refine ⟨?_, ?_, alloc2_below _ _ _⟩
  · rw [heap_at, if_neg (by simp), heap_at, if_pos rfl]; rfl
  · rw [heap_at, if_pos (by simp)]; rfl
theorem LZ.drew {w W : World} {a b c x y z : Int} (h : LZ w W a b c x y z) (n : Nat) : LZ w (W.drewN n) a b c x y z := ⟨h.p, h.q, h.bel.trans ((drewN_below W n).mono h.bel.size)⟩
/-- at the head of its loop -/
def LSL (w : World) (a b c x y z : Int) (v5 : Value) (wr : World) : Prop := ∃ i : Int, v5 = .int .i64 i ∧ -1 ≤ i ∧ i ≤ 5 ∧ (i < 2 → c = z) ∧ (i < 1 → b = y) ∧ (i < 0 → a = x) ∧ LZ w wr a b c x y z
set_option maxRecDepth 100000 in
set_option maxHeartbeats 8000000 in
theorem refBig_less (a b c x y z : Int) (w : World) : Calls Tryd.prog 44 #[.agg (digC a b c), .agg (digC x y z)] w (Ans (.bool (lessB a b c x y z)) w) := by
  unfold digC
  have HZ := Lib.hid (LZ.new w a b c x y z)
  have HS : Hid (LSL w a b c x y z (.int .i64 5) ((w.alloc (.cells #[.int .u64 a, .int .u64 b, .int .u64 c, .int .u64 0, .int .u64 0, .int .u64 0] 56)).alloc (.cells #[.int .u64 x, .int .u64 y, .int .u64 z, .int .u64 0, .int .u64 0, .int .u64 0] 56))) := Lib.hid ⟨5, rfl, by omega, by omega, fun h => by omega, fun h => by omega, fun h => by omega, HZ.out⟩
  have HB : Hid (lessB a b c x y z = if c ≠ z then decide (c < z) else if b ≠ y then decide (b < y) else decide (a < x)) := Lib.hid rfl
  generalize lessB a b c x y z = res at HB ⊢
  go_enter Tryd.func44, Tryd.ntmps44
  go_wp2_with fail
  go_loopw [5] (fun v5 wr => LSL w a b c x y z v5 wr) (fun v5 _ => (intOf v5 + 1).toNat)
  case atStart => exact HS.out
  case round =>
    obtain ⟨i, rfl, hi1, hi5, e2, e1, e0, hz⟩ := hrel
    have HZ := Lib.hid hz
    obtain ⟨p0, p1, p2, p3, p4, p5⟩ := box6 hz.p
    obtain ⟨q0, q1, q2, q3, q4, q5⟩ := box6 hz.q
    have HE := Lib.hid (And.intro e2 (And.intro e1 e0))
    clear hz e2 e1 e0
    obtain rfl | rfl | rfl | rfl | rfl | rfl | rfl : i = -1 ∨ i = 0 ∨ i = 1 ∨ i = 2 ∨ i = 3 ∨ i = 4 ∨ i = 5 := by omega
    · have h0 := HE.out.1 (by omega)
      have h1 := HE.out.2.1 (by omega)
      have h2 := HE.out.2.2 (by omega)
      have HR : Hid (res = false) := Lib.hid (by rw [HB.out, if_neg (by simp [h0]), if_neg (by simp [h1])]; exact decide_eq_false (by omega))
      clear h0 h1 h2
      go_wp2_with fail
      go_ret
      exact ⟨by rw [HR.out]; rfl, HZ.out.bel⟩
    · have h0 := HE.out.1 (by omega)
      have h1 := HE.out.2.1 (by omega)
      by_cases hne : a = x
      · have hb : (a != x) = false := by simp [hne]
        have HN : Hid (∀ v5 n, v5 = .int .i64 (-1) → LSL w a b c x y z v5 (wr.drewN n)) := Lib.hid fun v5 n h5 => ⟨-1, h5, by omega, by omega, by first | (intro h; omega) | (intro _; exact HE.out.1 (by omega)), by first | (intro h; omega) | (intro _; exact HE.out.2.1 (by omega)), by first | (intro h; omega) | (intro _; exact hne), HZ.out.drew n⟩
        clear hne
        go_wp2_with fail
        go_quiet (fail)
        go_wp2_with fail
        go_roundw
        case rel => first | exact HN.out _ _ (by go_num) | ((repeat apply Exists.intro); exact ⟨HN.out _ _ (by go_num), rfl⟩)
        case measure => simp [intOf]
      · have hb : (a != x) = true := by simp [hne]
        have HR : Hid (res = decide (a < x)) := Lib.hid (by rw [HB.out, if_neg (by simp [h0]), if_neg (by simp [h1])])
        clear hne
        go_wp2_with fail
        go_quiet (fail)
        go_wp2_with fail
        go_quiet (fail)
        go_wp2_with fail
        go_ret
        refine ⟨by rw [HR.out]; rfl, ?_⟩
        first | exact (HZ.out.drew _).bel | exact ((HZ.out.drew _).drew _).bel
    · have h0 := HE.out.1 (by omega)
      by_cases hne : b = y
      · have hb : (b != y) = false := by simp [hne]
        have HN : Hid (∀ v5 n, v5 = .int .i64 0 → LSL w a b c x y z v5 (wr.drewN n)) := Lib.hid fun v5 n h5 => ⟨0, h5, by omega, by omega, by first | (intro h; omega) | (intro _; exact HE.out.1 (by omega)), by first | (intro h; omega) | (intro _; exact hne), by first | (intro h; omega) | (intro _; exact hne), HZ.out.drew n⟩
        clear hne
        go_wp2_with fail
        go_quiet (fail)
        go_wp2_with fail
        go_roundw
        case rel => first | exact HN.out _ _ (by go_num) | ((repeat apply Exists.intro); exact ⟨HN.out _ _ (by go_num), rfl⟩)
        case measure => simp [intOf]
      · have hb : (b != y) = true := by simp [hne]
        have HR : Hid (res = decide (b < y)) := Lib.hid (by rw [HB.out, if_neg (by simp [h0]), if_pos hne])
        clear hne
        go_wp2_with fail
        go_quiet (fail)
        go_wp2_with fail
        go_quiet (fail)
        go_wp2_with fail
        go_ret
        refine ⟨by rw [HR.out]; rfl, ?_⟩
        first | exact (HZ.out.drew _).bel | exact ((HZ.out.drew _).drew _).bel
    · by_cases hne : c = z
      · have hb : (c != z) = false := by simp [hne]
        have HN : Hid (∀ v5 n, v5 = .int .i64 1 → LSL w a b c x y z v5 (wr.drewN n)) := Lib.hid fun v5 n h5 => ⟨1, h5, by omega, by omega, by first | (intro h; omega) | (intro _; exact hne), by first | (intro h; omega) | (intro _; exact HE.out.2.1 (by omega)), by first | (intro h; omega) | (intro _; exact hne), HZ.out.drew n⟩
        clear hne
        go_wp2_with fail
        go_quiet (fail)
        go_wp2_with fail
        go_roundw
        case rel => first | exact HN.out _ _ (by go_num) | ((repeat apply Exists.intro); exact ⟨HN.out _ _ (by go_num), rfl⟩)
        case measure => simp [intOf]
      · have hb : (c != z) = true := by simp [hne]
        have HR : Hid (res = decide (c < z)) := Lib.hid (by rw [HB.out, if_pos hne])
        clear hne
        go_wp2_with fail
        go_quiet (fail)
        go_wp2_with fail
        go_quiet (fail)
        go_wp2_with fail
        go_ret
        refine ⟨by rw [HR.out]; rfl, ?_⟩
        first | exact (HZ.out.drew _).bel | exact ((HZ.out.drew _).drew _).bel
    · have HN : Hid (∀ v5 n, v5 = .int .i64 2 → LSL w a b c x y z v5 (wr.drewN n)) := Lib.hid fun v5 n h5 => ⟨2, h5, by omega, by omega, fun h => by omega, fun h => by omega, fun h => by omega, HZ.out.drew n⟩
      go_wp2_with fail
      go_quiet (fail)
      go_wp2_with fail
      go_roundw
      case rel => first | exact HN.out _ _ (by go_num) | ((repeat apply Exists.intro); exact ⟨HN.out _ _ (by go_num), rfl⟩)
      case measure => simp [intOf]
    · have HN : Hid (∀ v5 n, v5 = .int .i64 3 → LSL w a b c x y z v5 (wr.drewN n)) := Lib.hid fun v5 n h5 => ⟨3, h5, by omega, by omega, fun h => by omega, fun h => by omega, fun h => by omega, HZ.out.drew n⟩
      go_wp2_with fail
      go_quiet (fail)
      go_wp2_with fail
      go_roundw
      case rel => first | exact HN.out _ _ (by go_num) | ((repeat apply Exists.intro); exact ⟨HN.out _ _ (by go_num), rfl⟩)
      case measure => simp [intOf]
    · have HN : Hid (∀ v5 n, v5 = .int .i64 4 → LSL w a b c x y z v5 (wr.drewN n)) := Lib.hid fun v5 n h5 => ⟨4, h5, by omega, by omega, fun h => by omega, fun h => by omega, fun h => by omega, HZ.out.drew n⟩
      go_wp2_with fail
      go_quiet (fail)
      go_wp2_with fail
      go_roundw
      case rel => first | exact HN.out _ _ (by go_num) | ((repeat apply Exists.intro); exact ⟨HN.out _ _ (by go_num), rfl⟩)
      case measure => simp [intOf]
def signB (m : Bool) (a b c d : Int) : Int := if a = 0 ∧ b = 0 ∧ c = 0 ∧ d = 0 then 0 else if m then -1 else 1
set_option maxRecDepth 100000 in
set_option maxHeartbeats 8000000 in
theorem refBig_sign (m : Bool) (a b c d : Int) (w : World) : Calls Tryd.prog 29 #[.agg (bigC m a b c d 0 0)] w (Ans (.int .i64 (signB m a b c d)) w) := by
  unfold bigC
  by_cases h : a = 0 ∧ b = 0 ∧ c = 0 ∧ d = 0
  · have HS : Hid (signB m a b c d = 0) := Lib.hid (by unfold signB; rw [if_pos h])
    rw [HS.out]
    clear HS
    obtain ⟨rfl, rfl, rfl, rfl⟩ := h
    have HB := Lib.hid (alloc_below w (.cells #[.bool m, .int .u64 0, .int .u64 0, .int .u64 0, .int .u64 0, .int .u64 0, .int .u64 0] 58))
    go_enter Tryd.func29, Tryd.ntmps29
    go_wp2_with fail
    go_ret
    exact ⟨rfl, HB.out⟩
  · have HB := Lib.hid (alloc_below w (.cells #[.bool m, .int .u64 a, .int .u64 b, .int .u64 c, .int .u64 d, .int .u64 0, .int .u64 0] 58))
    cases m with
    | true =>
      have HS : Hid (signB true a b c d = -1) := Lib.hid (by unfold signB; rw [if_neg h, if_pos rfl])
      rw [HS.out]
      clear HS
      go_enter Tryd.func29, Tryd.ntmps29
      go_wp2_with fail
      go_ret
      exact ⟨rfl, HB.out⟩
    | false =>
      have HS : Hid (signB false a b c d = 1) := Lib.hid (by unfold signB; rw [if_neg h, if_neg (by simp)])
      rw [HS.out]
      clear HS
      go_enter Tryd.func29, Tryd.ntmps29
      go_wp2_with fail
      go_ret
      exact ⟨rfl, HB.out⟩
end Go.Proofs.YtjfbhajaddgmpaaDoor
