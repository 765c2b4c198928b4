/- Package letter: whole, of right values. -/
import Derived.Test.YthdhifnafgidaaaZL
namespace Go.Proofs.Ythdhifnafgidaaa
open Go.RowKit

def zeroL : Value := .agg #[.int .i64 0, .int .i64 0, .int .i64 0, .int .i64 0, .slice none 0 0]
/-- what whole answers -/
def WhT (w : World) (l : List Val) (e : Ending) (w' : World) : Prop := Below w.heap.size w w' ∧ ((∃ k f t x b v, l = [intV k, intV f, intV t, intV x, intV b] ∧ (0 ≤ b ∧ b < 65536) ∧ e = .returned (.tuple #[.agg #[.int .i64 k, .int .i64 f, .int .i64 t, .int .i64 x, v], .bool true]) ∧ OwnI w' w.heap.size v (nodesI b.toNat)) ∨ ((∀ k f t x b, 0 ≤ b ∧ b < 65536 → l ≠ [intV k, intV f, intV t, intV x, intV b]) ∧ e = .returned (.tuple #[zeroL, .bool false])))
theorem R_int {x : Val} (h : x.R) (hk : (x.k != 2) = false) : x = intV x.n := by
  have hk2 : x.k = 2 := by simpa using hk
  have hc := h.cases
  obtain ⟨k, n, s⟩ := x
  simp only at hk2
  subst hk2
  rcases hc with h | h | h | h
  · simp only at h; omega
  · simp only at h; omega
  · have hs : s = ⟨#[]⟩ := h.2.1
    rw [hs]; rfl
  · simp only at h; omega
theorem five_of {l : List Val} (hl : l.length = 5) (h : otherL l = false) (hR : ∀ x ∈ l, x.R) : ∃ k f t x b, l = [intV k, intV f, intV t, intV x, intV b] := by
  match l, hl with
  | [a, b, c, d, e], _ =>
    have h2 := List.any_eq_false.1 h
    have go : ∀ x ∈ [a, b, c, d, e], x = intV x.n := fun x hx => R_int (hR x hx) (by have := h2 x hx; simpa using this)
    exact ⟨a.n, b.n, c.n, d.n, e.n, by rw [← go a (by simp), ← go b (by simp), ← go c (by simp), ← go d (by simp), ← go e (by simp)]⟩
theorem otherL_five (k f t x b : Int) : otherL [intV k, intV f, intV t, intV x, intV b] = false := rfl
theorem below_drew_then {w0 w2 w4 : World} {j : Nat} (h : Below w0.heap.size w0 w2) (h4 : Below (w2.drewN j).heap.size (w2.drewN j) w4) : Below w0.heap.size w0 w4 ∧ w0.heap.size ≤ (w2.drewN j).heap.size := by
  have h2 := h.trans ((drewN_below w2 j).mono h.size)
  exact ⟨h2.trans (h4.mono h2.size), h2.size⟩
theorem OwnI.kept {w w' : World} {B g : Nat} {v : Value} {l : List Int} (h : OwnI w B v l) (hg : w.grownBy w' (some g)) (hne : v.ownBlock ≠ some g) : OwnI w' B v l := ⟨h.1.kept hg (.inr hne), h.2⟩
set_option maxRecDepth 100000 in
set_option maxHeartbeats 8000000 in
theorem whole_any (l : List Val) (hR : ∀ x ∈ l, x.R) (A : Option Addr) (n cap : Nat) (hn : l.length = n) (hn2 : n ≤ 1000000) (w : World) (hr : RdV w w.heap.size A l) :
    Calls Try.prog 41 #[.slice A n cap] w (WhT w l) := by
  have hmf : ∀ (fn : Fn) (first cap : Array Value) (w : World), (Instr.makeFunc fn first cap).run Try.prog w = .ok (.func fn first cap) w := fun _ _ _ _ => rfl
  obtain ⟨w0, hw0⟩ : ∃ w0, w0 = w.alloc (.cells #[.int .i64 0, .int .i64 0, .int .i64 0, .int .i64 0, .slice none 0 0] 32) := ⟨_, rfl⟩
  have hb0 : Below w.heap.size w w0 := by rw [hw0]; exact alloc_below w _
  have hs0 : w0.heap.size = w.heap.size + 1 := by rw [hw0]; simp
  have hbx : w0.heap[w.heap.size]? = some (.cells #[.int .i64 0, .int .i64 0, .int .i64 0, .int .i64 0, .slice none 0 0] 32 (0, 0)) := by rw [hw0]; exact heap_alloc_new w _
  have HB := Lib.hid hb0
  have HX := Lib.hid hbx
  have hni : (n : Int) ≤ 1000000 := by omega
  have HNO : Hid (∀ w' : World, Below w.heap.size w w' → (∀ k f t x b, 0 ≤ b ∧ b < 65536 → l ≠ [intV k, intV f, intV t, intV x, intV b]) → WhT w l (.returned (.tuple #[zeroL, .bool false])) w') := Lib.hid fun w' hb h => ⟨hb, .inr ⟨h, rfl⟩⟩
  have HZ : Hid (∀ w2, Below w0.heap.size w0 w2 → ∀ a b c d e, w2.heap[w.heap.size]? = some (.cells #[.int .i64 0, .int .i64 0, .int .i64 0, .int .i64 0, .slice none 0 0] 32 (0, 0)) ∧ Hid (Below w.heap.size w (((((w2.setCell ⟨w.heap.size, 0, none⟩ a).setCell ⟨w.heap.size, 1, none⟩ b).setCell ⟨w.heap.size, 2, none⟩ c).setCell ⟨w.heap.size, 3, none⟩ d).setCell ⟨w.heap.size, 4, none⟩ e)) ∧ w2.grownBy (((((w2.setCell ⟨w.heap.size, 0, none⟩ a).setCell ⟨w.heap.size, 1, none⟩ b).setCell ⟨w.heap.size, 2, none⟩ c).setCell ⟨w.heap.size, 3, none⟩ d).setCell ⟨w.heap.size, 4, none⟩ e) (some w.heap.size)) := Lib.hid fun w2 hb a b c d e => by
    have g := grown_trans (grown_trans (grown_trans (grown_trans (grown_set w2 w.heap.size 0 a) (grown_set _ w.heap.size 1 b)) (grown_set _ w.heap.size 2 c)) (grown_set _ w.heap.size 3 d)) (grown_set _ w.heap.size 4 e)
    have hb2 := hb0.trans (hb.mono hb0.size)
    exact ⟨(hb.block _ (by omega)).trans hbx, Lib.hid (hb2.trans (grown_below' g (Nat.le_refl _) hb2.size)), g⟩
  by_cases h5 : n = 5
  · subst h5
    have HC := Lib.hid (containsV_any l A 5 cap hn hn2 w0 ((hr.below hb0 (Nat.le_refl _)).more hb0.size))
    cases ho : otherL l with
    | true =>
      rw [ho] at HC
      have HY : Hid (∀ k f t x b, 0 ≤ b ∧ b < 65536 → l ≠ [intV k, intV f, intV t, intV x, intV b]) := Lib.hid fun k f t x b _ e => by rw [e, otherL_five] at ho; cases ho
      clear hn hn2 hr ho hbx hs0 hb0 hR
      subst hw0
      go_enter Try.func41, Try.ntmps41
      go_wp2_with (go_at_call 54; refine HC.out.mono ?_; rintro e w2 ⟨rfl, hb⟩
                   obtain ⟨h1, h2, _⟩ := HZ.out w2 hb (.int .i64 0) (.int .i64 0) (.int .i64 0) (.int .i64 0) (.slice none 0 0)
                   obtain ⟨y0, y1, y2, y3, y4⟩ := box5 h1
                   have z0 := frozen_of h1 0
                   have z1 := frozen_of h1 1
                   have z2 := frozen_of h1 2
                   have z3 := frozen_of h1 3
                   have z4 := frozen_of h1 4
                   clear h1 hb)
      refine bodyPost_ret (v := .tuple #[.agg #[.int .i64 0, .int .i64 0, .int .i64 0, .int .i64 0, .slice none 0 0], .bool false]) (by simp [results, Try.results41, go_sem, y0, y1, y2, y3, y4]) rfl ?_
      exact HNO.out _ h2.out HY.out
    | false =>
      obtain ⟨k, f, t, x, b, rfl⟩ := five_of hn ho hR
      rw [ho] at HC
      obtain ⟨bl, o, hA, hbl, hc⟩ := hr (by simp)
      subst hA
      have HCE : Hid (∀ W, Below w0.heap.size w0 W → W.cell? ⟨bl, o + 1, none⟩ = some (.int .i64 k) ∧ W.cell? ⟨bl, o + 3 + 1, none⟩ = some (.int .i64 f) ∧ W.cell? ⟨bl, o + 6 + 1, none⟩ = some (.int .i64 t) ∧ W.cell? ⟨bl, o + 9 + 1, none⟩ = some (.int .i64 x) ∧ W.cell? ⟨bl, o + 12 + 1, none⟩ = some (.int .i64 b)) := Lib.hid fun W hb => by
        have hb2 := hb0.trans (hb.mono hb0.size)
        have hcell : ∀ j, W.cell? ⟨bl, j, none⟩ = w.cell? ⟨bl, j, none⟩ := fun j => World.cell?_of_block (hb2.block bl hbl)
        rw [hcell, hcell, hcell, hcell, hcell]
        exact ⟨(hc 0 _ rfl).2.1, (hc 1 _ rfl).2.1, (hc 2 _ rfl).2.1, (hc 3 _ rfl).2.1, (hc 4 _ rfl).2.1⟩
      by_cases hb : 0 ≤ b ∧ b < 65536
      · obtain ⟨c, rfl⟩ : ∃ c : Nat, b = (c : Int) := ⟨b.toNat, by omega⟩
        have hc0 : ¬ (c : Int) < 0 := by omega
        have hcd : decide (65536 ≤ (c : Int)) = false := decide_eq_false (by omega)
        have HD := Lib.hid (nodes_any c (by omega))
        have HY : Hid (∀ v w', Below w.heap.size w w' → OwnI w' w.heap.size v (nodesI c) → WhT w [intV k, intV f, intV t, intV x, intV (c : Int)] (.returned (.tuple #[.agg #[.int .i64 k, .int .i64 f, .int .i64 t, .int .i64 x, v], .bool true])) w') := Lib.hid fun v w' hbw ho => ⟨hbw, .inl ⟨k, f, t, x, c, v, rfl, hb, rfl, by simpa using ho⟩⟩
        have HS0 := Lib.hid hs0
        clear hn hn2 hr ho hbx hs0 hb0 hR hb HNO hc
        subst hw0
        go_enter Try.func41, Try.ntmps41
        go_wp2_with (go_at_call 54; refine HC.out.mono ?_; rintro e w2 ⟨rfl, hb⟩
                     obtain ⟨c0, c1, c2, c3, c4⟩ := HCE.out w2 hb
                     have HB2 := Lib.hid hb
                     clear hb)
        have hc0 : ¬ (c : Int) < 0 := by omega
        go_quiet (fail)
        go_wp2_with (go_at_call 55; refine (HD.out _).mono ?_; rintro e w4 ⟨v, rfl, ho4, hb4⟩
                     obtain ⟨A4, cap4, rfl, _⟩ := ho4.2
                     have HO4 := Lib.hid ho4
                     obtain ⟨h44, h04⟩ := below_drew_then HB2.out hb4
                     obtain ⟨h1, h2, h3⟩ := HZ.out w4 h44 (.int .i64 k) (.int .i64 f) (.int .i64 t) (.int .i64 x) (.slice A4 (nodesI c).length cap4)
                     have HF := Lib.hid (HY.out _ _ h2.out ((ho4.kept h3 (fun e => by
                       have h5 := ho4.ge _ e
                       have h6 := h04
                       have h7 := HS0.out
                       omega)).low (Nat.le_trans HB.out.size h04)))
                     obtain ⟨y0, y1, y2, y3, y4⟩ := box5 h1
                     have z0 := frozen_of h1 0
                     have z1 := frozen_of h1 1
                     have z2 := frozen_of h1 2
                     have z3 := frozen_of h1 3
                     have z4 := frozen_of h1 4
                     clear ho4 hb4 h04 h44 h1 h2 h3)
        refine bodyPost_ret (v := .tuple #[.agg #[.int .i64 k, .int .i64 f, .int .i64 t, .int .i64 x, .slice A4 (nodesI c).length cap4], .bool true]) (by simp [results, Try.results41, go_sem, y0, y1, y2, y3, y4]) rfl ?_
        exact HF.out
      · by_cases h0 : b < 0
        · have HY : Hid (∀ k' f' t' x' b', 0 ≤ b' ∧ b' < 65536 → [intV k, intV f, intV t, intV x, intV b] ≠ [intV k', intV f', intV t', intV x', intV b']) := Lib.hid fun k' f' t' x' b' h e => by
            simp only [intV, List.cons.injEq, Val.mk.injEq, and_true, true_and] at e
            omega
          clear hn hn2 hr ho hbx hs0 hb0 hR hb hc
          subst hw0
          go_enter Try.func41, Try.ntmps41
          go_wp2_with (go_at_call 54; refine HC.out.mono ?_; rintro e w2 ⟨rfl, hb⟩
                       obtain ⟨c0, c1, c2, c3, c4⟩ := HCE.out w2 hb
                       have HQ : Hid (∀ n, _ ∧ _) := Lib.hid fun n => HZ.out (w2.drewN n) (hb.trans ((drewN_below w2 n).mono hb.size)) (.int .i64 0) (.int .i64 0) (.int .i64 0) (.int .i64 0) (.slice none 0 0)
                       have y0 := fun n => (box5 (HQ.out n).1).1
                       have y1 := fun n => (box5 (HQ.out n).1).2.1
                       have y2 := fun n => (box5 (HQ.out n).1).2.2.1
                       have y3 := fun n => (box5 (HQ.out n).1).2.2.2.1
                       have y4 := fun n => (box5 (HQ.out n).1).2.2.2.2
                       have z0 := fun n => frozen_of (HQ.out n).1 0
                       have z1 := fun n => frozen_of (HQ.out n).1 1
                       have z2 := fun n => frozen_of (HQ.out n).1 2
                       have z3 := fun n => frozen_of (HQ.out n).1 3
                       have z4 := fun n => frozen_of (HQ.out n).1 4
                       clear hb)
          go_quiet (fail)
          go_wp2_with fail
          refine bodyPost_ret (v := .tuple #[.agg #[.int .i64 0, .int .i64 0, .int .i64 0, .int .i64 0, .slice none 0 0], .bool false]) (by simp [results, Try.results41, go_sem, y0, y1, y2, y3, y4]) rfl ?_
          exact HNO.out _ (HQ.out _).2.1.out HY.out
        · have hbd : decide (65536 ≤ b) = true := decide_eq_true (by omega)
          have HY : Hid (∀ k' f' t' x' b', 0 ≤ b' ∧ b' < 65536 → [intV k, intV f, intV t, intV x, intV b] ≠ [intV k', intV f', intV t', intV x', intV b']) := Lib.hid fun k' f' t' x' b' h e => by
            simp only [intV, List.cons.injEq, Val.mk.injEq, and_true, true_and] at e
            omega
          clear hn hn2 hr ho hbx hs0 hb0 hR hb hc
          subst hw0
          go_enter Try.func41, Try.ntmps41
          go_wp2_with (go_at_call 54; refine HC.out.mono ?_; rintro e w2 ⟨rfl, hb⟩
                       obtain ⟨c0, c1, c2, c3, c4⟩ := HCE.out w2 hb
                       have HQ : Hid (∀ n, _ ∧ _) := Lib.hid fun n => HZ.out (w2.drewN n) (hb.trans ((drewN_below w2 n).mono hb.size)) (.int .i64 0) (.int .i64 0) (.int .i64 0) (.int .i64 0) (.slice none 0 0)
                       have y0 := fun n => (box5 (HQ.out n).1).1
                       have y1 := fun n => (box5 (HQ.out n).1).2.1
                       have y2 := fun n => (box5 (HQ.out n).1).2.2.1
                       have y3 := fun n => (box5 (HQ.out n).1).2.2.2.1
                       have y4 := fun n => (box5 (HQ.out n).1).2.2.2.2
                       have z0 := fun n => frozen_of (HQ.out n).1 0
                       have z1 := fun n => frozen_of (HQ.out n).1 1
                       have z2 := fun n => frozen_of (HQ.out n).1 2
                       have z3 := fun n => frozen_of (HQ.out n).1 3
                       have z4 := fun n => frozen_of (HQ.out n).1 4
                       clear hb)
          go_quiet (fail)
          go_wp2_with fail
          refine bodyPost_ret (v := .tuple #[.agg #[.int .i64 0, .int .i64 0, .int .i64 0, .int .i64 0, .slice none 0 0], .bool false]) (by simp [results, Try.results41, go_sem, y0, y1, y2, y3, y4]) rfl ?_
          exact HNO.out _ (HQ.out _).2.1.out HY.out
  · have h5i : ((n : Int) != 5) = true := by simpa using (by omega : ¬ (n : Int) = 5)
    have HY : Hid (∀ k f t x b, 0 ≤ b ∧ b < 65536 → l ≠ [intV k, intV f, intV t, intV x, intV b]) := Lib.hid fun k f t x b _ e => by subst e; exact h5 hn.symm
    clear hn hn2 hr hbx hs0 hb0 hR h5
    subst hw0
    go_enter Try.func41, Try.ntmps41
    go_wp2_with fail
    refine bodyPost_ret (v := .tuple #[.agg #[.int .i64 0, .int .i64 0, .int .i64 0, .int .i64 0, .slice none 0 0], .bool false]) (by simp [results, Try.results41, go_sem]) rfl ?_
    exact HNO.out _ HB.out HY.out
end Go.Proofs.Ythdhifnafgidaaa
