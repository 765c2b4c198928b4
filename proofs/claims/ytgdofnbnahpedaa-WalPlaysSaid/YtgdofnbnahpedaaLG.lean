/- The document's Safe. -/
import Derived.Test.YtgdofnbnahpedaaLC
namespace Go.Proofs.Ytgdofnbnahpedaa
open Go.RowKit

/-- how many entries end at s or ahead of it -/
def safeE (es : List BEnt) (s : Int) : Nat := es.countP fun x => decide (x.no + 5 + (x.l.length : Int) ≤ s)
theorem safeE_step {es : List BEnt} {i : Nat} {x : BEnt} (h : es[i]? = some x) (s : Int) : safeE (es.take (i + 1)) s = safeE (es.take i) s + if x.no + 5 + (x.l.length : Int) ≤ s then 1 else 0 := by
  have h1 := List.getElem?_eq_some_iff.1 h
  unfold safeE
  rw [List.take_succ_eq_append_getElem h1.1, h1.2, List.countP_append]
  congr 1
  by_cases hs : x.no + 5 + (x.l.length : Int) ≤ s
  · rw [if_pos hs, List.countP_cons_of_pos (by simp [hs])]; rfl
  · rw [if_neg hs, List.countP_cons_of_neg (by simp [hs])]; rfl
theorem safeE_le (es : List BEnt) (s : Int) : safeE es s ≤ es.length := List.countP_le_length
/-- at the head of Safe's loop -/
def RsL (w : World) (es : List BEnt) (s : Int) (v3 v4 : Value) (wr : World) : Prop := ∃ i k : Nat, v3 = .int .i64 ((safeE (es.take i) s : Nat) : Int) ∧ v4 = .int .i64 (i : Int) ∧ i ≤ es.length ∧ wr = w.drewN k
set_option maxRecDepth 100000 in
set_option maxHeartbeats 4000000 in
theorem rsafe_any {w : World} {q p cap : Nat} {A : Option Addr} {es : List BEnt} {s : Int} (h1 : w.heap[q]? = some (.cells #[.pointer (some ⟨p, 0, none⟩), .slice A es.length cap] 58 (0, 0))) (hd : w.cell? ⟨p, 3, none⟩ = some (.int .i64 s)) (hr : RdE w w.heap.size A es) (hl : es.length ≤ 1000000) (hb : ∀ x ∈ es, 0 ≤ x.no ∧ x.no ≤ 1000000 ∧ x.l.length ≤ 1000000) :
    Calls Try.prog 34 #[.pointer (some ⟨q, 0, none⟩)] w (LooksN (.int .i64 ((safeE es s : Nat) : Int)) w) := by
  obtain ⟨x0, x1⟩ := box2 h1
  have HR := Lib.hid hr
  have HBE := Lib.hid hb
  have HX0 := Lib.hid x0
  have HX1 := Lib.hid x1
  have HD := Lib.hid hd
  have HST : Hid (RsL w es s (.int .i64 0) (.int .i64 0) w) := Lib.hid ⟨0, 0, rfl, rfl, Nat.zero_le _, rfl⟩
  have hli : (es.length : Int) ≤ 1000000 := by omega
  have HSL := Lib.hid (fun i => Nat.le_trans (safeE_le (es.take i) s) (by rw [List.length_take]; exact Nat.min_le_right _ _) : ∀ i, safeE (es.take i) s ≤ es.length)
  obtain ⟨r, hr'⟩ : ∃ r, Hid (r = safeE es s) := ⟨_, Lib.hid rfl⟩
  rw [← hr'.out]
  clear h1 hr hl hb x0 x1 hd
  go_enter Try.func34, Try.ntmps34
  go_wp2_with fail
  go_loopw [3, 4] (fun v3 v4 wr => RsL w es s v3 v4 wr) (fun _ v4 _ => es.length - (intOf v4).toNat)
  case atStart => exact HST.out
  case round =>
    obtain ⟨i, k, h3, rfl, hi, hw⟩ := hrel
    obtain ⟨C, hC⟩ : ∃ C, C = safeE (es.take i) s := ⟨_, rfl⟩
    rw [← hC] at h3
    subst h3
    have hCl : C ≤ es.length := by rw [hC]; exact HSL.out i
    have hCi : (C : Int) ≤ 1000000 := by omega
    have HC := Lib.hid hC
    have HW := Lib.hid hw
    have x0 : wr.cell? ⟨q, 0, none⟩ = some (.pointer (some ⟨p, 0, none⟩)) := by rw [← HX0.out, hw]; rfl
    have x1 : wr.cell? ⟨q, 1, none⟩ = some (.slice A es.length cap) := by rw [← HX1.out, hw]; rfl
    have x3 : wr.cell? ⟨p, 3, none⟩ = some (.int .i64 s) := by rw [← HD.out, hw]; rfl
    clear hC hw
    by_cases hlt : i < es.length
    · have hlti : (i : Int) < (es.length : Int) := by omega
      obtain ⟨x, hx⟩ : ∃ x, es[i]? = some x := ⟨_, List.getElem?_eq_getElem hlt⟩
      obtain ⟨b0, o0, hA, _, c0, c1⟩ := HR.out.at_ hx
      subst hA
      obtain ⟨hn0, hn1, hn2⟩ := HBE.out x (List.mem_of_getElem? hx)
      have hst := safeE_step hx s
      obtain ⟨m, hm⟩ : ∃ m, m = x.no := ⟨_, rfl⟩
      obtain ⟨N, hN⟩ : ∃ N, N = x.l.length := ⟨_, rfl⟩
      rw [← hm, ← hN, ← HC.out] at hst
      rw [← hm] at hn0 hn1
      rw [← hN] at hn2
      have c0 : wr.cell? ⟨b0, o0 + i * 2, none⟩ = some (.int .i64 m) := by rw [hm, ← c0, HW.out]; rfl
      have c1 : wr.cell? ⟨b0, o0 + i * 2 + 1, none⟩ = some (.slice x.A N x.cap) := by rw [hN, ← c1, HW.out]; rfl
      have hi00 : 0 ≤ (i : Int) := by omega
      have hii : (i : Int) ≤ 1000000 := by omega
      have HST2 := Lib.hid hst
      have HLT := Lib.hid hlt
      clear hm hN hx hst hi hCl hlt
      by_cases hs : m + 5 + (N : Int) ≤ s
      · have HY : Hid (∀ v3 v4 k2, v3 = .int .i64 ((C + 1 : Nat) : Int) → v4 = .int .i64 ((i + 1 : Nat) : Int) → RsL w es s v3 v4 (wr.drewN k2)) := Lib.hid fun v3 v4 k2 h3 h4 => ⟨i + 1, k + k2, by rw [HST2.out, if_pos hs]; exact h3, h4, HLT.out, by rw [HW.out, World.drewN_drewN]⟩
        have hw2 : IntKind.i64.wrap (m + 5 + (N : Int)) = m + 5 + (N : Int) := by rw [IntKind.wrap_i64]; omega
        have hw1 : IntKind.i64.wrap (m + 5) = m + 5 := by rw [IntKind.wrap_i64]; omega
        go_wp2_with fail
        go_quiet (fail)
        clear hw1 hw2
        go_wp2_with fail
        go_roundw
        case rel => first | exact HY.out _ _ _ (by go_num) (by go_num) | ((repeat apply Exists.intro); exact ⟨HY.out _ _ _ (by go_num) (by go_num), rfl⟩)
        case measure => have := HLT.out; simp [intOf]; omega
      · have HY : Hid (∀ v3 v4 k2, v3 = .int .i64 ((C : Nat) : Int) → v4 = .int .i64 ((i + 1 : Nat) : Int) → RsL w es s v3 v4 (wr.drewN k2)) := Lib.hid fun v3 v4 k2 h3 h4 => ⟨i + 1, k + k2, by rw [HST2.out, if_neg hs]; exact h3, h4, HLT.out, by rw [HW.out, World.drewN_drewN]⟩
        have hw2 : IntKind.i64.wrap (m + 5 + (N : Int)) = m + 5 + (N : Int) := by rw [IntKind.wrap_i64]; omega
        have hw1 : IntKind.i64.wrap (m + 5) = m + 5 := by rw [IntKind.wrap_i64]; omega
        go_wp2_with fail
        go_quiet (fail)
        clear hw1 hw2
        go_wp2_with fail
        go_roundw
        case rel => first | exact HY.out _ _ _ (by go_num) (by go_num) | ((repeat apply Exists.intro); exact ⟨HY.out _ _ _ (by go_num) (by go_num), rfl⟩)
        case measure => have := HLT.out; simp [intOf]; omega
    · have hie : i = es.length := by omega
      subst hie
      have hlti : ¬ (es.length : Int) < (es.length : Int) := by omega
      have HY : Hid (C = r) := Lib.hid (by rw [HC.out, hr'.out, List.take_length])
      clear hi hCl hlt
      go_wp2_with fail
      go_ret
      exact ⟨by rw [← HY.out]; rfl, _, HW.out⟩
end Go.Proofs.Ytgdofnbnahpedaa
