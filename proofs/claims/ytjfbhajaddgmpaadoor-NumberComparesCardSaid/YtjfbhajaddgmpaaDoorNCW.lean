/- NumberCompares: the law's own body answers true. -/
import Derived.Test.YtjfbhajaddgmpaaDoorNCN
import Derived.Test.YtjfbhajaddgmpaaDoorNCOC
namespace Go.Proofs.YtjfbhajaddgmpaaDoor
open Go.RowKit
attribute [local go_sem ↓] eqV

theorem held_alloc2 {W : World} {L : List (Nat × Obj)} (h : Held W L) (o p : Obj) : Held ((W.alloc o).alloc p) ((W.heap.size + 1, p) :: (W.heap.size, o) :: L) := by
  have h2 := (h.alloc o).alloc p
  have e : (W.alloc o).heap.size = W.heap.size + 1 := by simp
  rw [e] at h2
  exact h2
/-- told's answer, whatever is made later -/
def Tells (v : Value) (c p : Int) (w : World) : Prop := ∀ w2, Below w.heap.size w w2 → Calls Tryd.prog 9 #[v, .agg #[.int .i64 c, .int .i64 p]] w2 (Ans (.bool true) w2)
theorem eqv_self (k n : Int) (s : ByteArray) : eqB k n s k n s = true := by unfold eqB; simp
set_option maxRecDepth 100000 in
set_option maxHeartbeats 8000000 in
theorem compares_long (op k n j m : Int) (s t : ByteArray) (w : World) (hg : Handle w) (hl : 500 < s.size ∨ 500 < t.size) :
    Calls Tryd.prog 3 #[.int .i64 op, .agg #[.int .i64 k, .int .i64 n, .string s], .agg #[.int .i64 j, .int .i64 m, .string t]] w (Ans (.bool true) w) := by
  have HG := Lib.hid hg
  have AL := Lib.hid aliveN_any
  have HB := Lib.hid (PB.start w k n s j m t)
  clear hg
  have hl2 : (500 : Int) < (s.size : Int) ∨ ¬ (500 : Int) < (s.size : Int) ∧ (500 : Int) < (t.size : Int) := by omega
  clear hl
  rcases hl2 with h | ⟨h, h2⟩
  all_goals
    obtain ⟨a0, a1, a2, b0, b1, b2⟩ := HB.out.six
    go_enter Tryd.func3, Tryd.ntmps3
    go_wp2_with (first
      | (go_at_call 4; refine (AL.out _ (HG.out.below HB.out.bel)).mono ?_; rintro e w9 ⟨rfl, hb⟩
         have HB := Lib.hid (HB.out.next hb); clear hb))
    go_ret
    exact ⟨rfl, HB.out.bel⟩
set_option maxRecDepth 100000 in
set_option maxHeartbeats 8000000 in
theorem compares_core (op k n j m : Int) (s t : ByteArray) (kv nv c1 p1 s1 c2 p2 : Int) (w : World) (hg : Handle w) (hs : s.size ≤ 500) (ht : t.size ≤ 500)
    (C : ∀ w, Handle w → Calls Tryd.prog 5 #[.int .i64 op, .agg #[.int .i64 k, .int .i64 n, .string s], .agg #[.int .i64 j, .int .i64 m, .string t]] w fun e w' => ∃ v, e = .returned (.tuple #[.agg #[.int .i64 kv, .int .i64 nv, .string ⟨#[]⟩], v]) ∧ Below w.heap.size w w' ∧ Tells v c1 p1 w')
    (R : ∀ w, Calls Tryd.prog 6 #[.int .i64 op, .agg #[.int .i64 k, .int .i64 n, .string s], .agg #[.int .i64 j, .int .i64 m, .string t]] w (Ans (.tuple #[.agg #[.int .i64 kv, .int .i64 nv, .string ⟨#[]⟩], .agg #[.int .i64 c1, .int .i64 p1]]) w))
    (S : ∀ w, Handle w → Calls Tryd.prog 7 #[.agg #[.int .i64 k, .int .i64 n, .string s], .agg #[.int .i64 j, .int .i64 m, .string t]] w fun e w' => ∃ v, e = .returned (.tuple #[.int .i64 s1, v]) ∧ Below w.heap.size w w' ∧ Tells v c2 p2 w')
    (T : ∀ w, Calls Tryd.prog 8 #[.agg #[.int .i64 k, .int .i64 n, .string s], .agg #[.int .i64 j, .int .i64 m, .string t]] w (Ans (.tuple #[.int .i64 s1, .agg #[.int .i64 c2, .int .i64 p2]]) w)) :
    Calls Tryd.prog 3 #[.int .i64 op, .agg #[.int .i64 k, .int .i64 n, .string s], .agg #[.int .i64 j, .int .i64 m, .string t]] w (Ans (.bool true) w) := by
  have HG := Lib.hid hg
  have AL := Lib.hid aliveN_any
  have HB := Lib.hid (PB.start w k n s j m t)
  replace C := Lib.hid C
  replace R := Lib.hid R
  replace S := Lib.hid S
  replace T := Lib.hid T
  have f0 := eqv_self kv nv ⟨#[]⟩
  have h1 : ¬ (500 : Int) < (s.size : Int) := by omega
  have h2 : ¬ (500 : Int) < (t.size : Int) := by omega
  clear hg hs ht
  obtain ⟨a0, a1, a2, b0, b1, b2⟩ := HB.out.six
  go_enter Tryd.func3, Tryd.ntmps3
  go_wp2_with fail
  go_at_call 5
  refine (C.out _ (HG.out.below HB.out.bel)).mono ?_
  rintro e w3 ⟨v1, rfl, hb, ht1⟩
  have HT1 := Lib.hid ht1
  have HB := Lib.hid (HB.out.next (hb.trans ((alloc_below _ (.cells #[.int .i64 kv, .int .i64 nv, .string ⟨#[]⟩] 25)).mono hb.size)))
  have HL := Lib.hid ((Held.nil w3).alloc (.cells #[.int .i64 kv, .int .i64 nv, .string ⟨#[]⟩] 25 (0, 0)))
  clear hb ht1 a0 a1 a2 b0 b1 b2
  obtain ⟨a0, a1, a2, b0, b1, b2⟩ := HB.out.six
  obtain ⟨xa0, xa1, xa2⟩ := box3 (HL.out (w3.heap.size, .cells #[.int .i64 kv, .int .i64 nv, .string ⟨#[]⟩] 25 (0, 0)) (by simp))
  go_wp2_with fail
  go_at_call 6
  refine (R.out _).mono ?_
  rintro e w4 ⟨rfl, hb⟩
  have HB := Lib.hid (HB.out.next (hb.trans ((alloc2_below _ (.cells #[.int .i64 kv, .int .i64 nv, .string ⟨#[]⟩] 25) (.cells #[.int .i64 c1, .int .i64 p1] 33)).mono hb.size)))
  have HT1 : Hid (Tells v1 c1 p1 w4) := Lib.hid fun w2 h2 => HT1.out w2 (((alloc_below w3 (.cells #[.int .i64 kv, .int .i64 nv, .string ⟨#[]⟩] 25)).trans (hb.mono (alloc_below w3 (.cells #[.int .i64 kv, .int .i64 nv, .string ⟨#[]⟩] 25)).size)).trans (h2.mono ((alloc_below w3 (.cells #[.int .i64 kv, .int .i64 nv, .string ⟨#[]⟩] 25)).trans (hb.mono (alloc_below w3 (.cells #[.int .i64 kv, .int .i64 nv, .string ⟨#[]⟩] 25)).size)).size))
  have HL := Lib.hid (held_alloc2 (HL.out.next hb) (.cells #[.int .i64 kv, .int .i64 nv, .string ⟨#[]⟩] 25 (0, 0)) (.cells #[.int .i64 c1, .int .i64 p1] 33 (0, 0)))
  clear hb a0 a1 a2 b0 b1 b2 xa0 xa1 xa2
  obtain ⟨a0, a1, a2, b0, b1, b2⟩ := HB.out.six
  obtain ⟨xa0, xa1, xa2⟩ := box3 (HL.out (w3.heap.size, .cells #[.int .i64 kv, .int .i64 nv, .string ⟨#[]⟩] 25 (0, 0)) (by simp))
  obtain ⟨xb0, xb1, xb2⟩ := box3 (HL.out (w4.heap.size, .cells #[.int .i64 kv, .int .i64 nv, .string ⟨#[]⟩] 25 (0, 0)) (by simp))
  obtain ⟨xf0, xf1⟩ := box2 (HL.out (w4.heap.size + 1, .cells #[.int .i64 c1, .int .i64 p1] 33 (0, 0)) (by simp))
  go_wp2_with fail
  go_at_call 7
  refine (S.out _ (HG.out.below HB.out.bel)).mono ?_
  rintro e w5 ⟨v2, rfl, hb, ht2⟩
  have HT2 := Lib.hid ht2
  clear ht2
  have HB := Lib.hid (HB.out.next hb)
  have HT1 : Hid (Tells v1 c1 p1 w5) := Lib.hid fun w2 h2 => HT1.out w2 (((alloc2_below w4 (.cells #[.int .i64 kv, .int .i64 nv, .string ⟨#[]⟩] 25) (.cells #[.int .i64 c1, .int .i64 p1] 33)).trans (hb.mono (alloc2_below w4 (.cells #[.int .i64 kv, .int .i64 nv, .string ⟨#[]⟩] 25) (.cells #[.int .i64 c1, .int .i64 p1] 33)).size)).trans (h2.mono ((alloc2_below w4 (.cells #[.int .i64 kv, .int .i64 nv, .string ⟨#[]⟩] 25) (.cells #[.int .i64 c1, .int .i64 p1] 33)).trans (hb.mono (alloc2_below w4 (.cells #[.int .i64 kv, .int .i64 nv, .string ⟨#[]⟩] 25) (.cells #[.int .i64 c1, .int .i64 p1] 33)).size)).size))
  have HL := Lib.hid (HL.out.next hb)
  clear hb a0 a1 a2 b0 b1 b2 xa0 xa1 xa2 xb0 xb1 xb2 xf0 xf1
  obtain ⟨a0, a1, a2, b0, b1, b2⟩ := HB.out.six
  obtain ⟨xa0, xa1, xa2⟩ := box3 (HL.out (w3.heap.size, .cells #[.int .i64 kv, .int .i64 nv, .string ⟨#[]⟩] 25 (0, 0)) (by simp))
  obtain ⟨xb0, xb1, xb2⟩ := box3 (HL.out (w4.heap.size, .cells #[.int .i64 kv, .int .i64 nv, .string ⟨#[]⟩] 25 (0, 0)) (by simp))
  obtain ⟨xf0, xf1⟩ := box2 (HL.out (w4.heap.size + 1, .cells #[.int .i64 c1, .int .i64 p1] 33 (0, 0)) (by simp))
  go_wp2_with fail
  go_at_call 8
  refine (T.out _).mono ?_
  rintro e w6 ⟨rfl, hb⟩
  have HB := Lib.hid (HB.out.next (hb.trans ((alloc_below _ (.cells #[.int .i64 c2, .int .i64 p2] 33)).mono hb.size)))
  have hb2 := hb.trans ((alloc_below w6 (.cells #[.int .i64 c2, .int .i64 p2] 33)).mono hb.size)
  have HT1 : Hid (∀ w2, Below (w6.alloc (.cells #[.int .i64 c2, .int .i64 p2] 33)).heap.size (w6.alloc (.cells #[.int .i64 c2, .int .i64 p2] 33)) w2 → Calls Tryd.prog 9 #[v1, .agg #[.int .i64 c1, .int .i64 p1]] w2 (Ans (.bool true) w2)) := Lib.hid fun w2 h2 => HT1.out w2 (hb2.trans (h2.mono hb2.size))
  have HT2 : Hid (∀ w2, Below (w6.alloc (.cells #[.int .i64 c2, .int .i64 p2] 33)).heap.size (w6.alloc (.cells #[.int .i64 c2, .int .i64 p2] 33)) w2 → Calls Tryd.prog 9 #[v2, .agg #[.int .i64 c2, .int .i64 p2]] w2 (Ans (.bool true) w2)) := Lib.hid fun w2 h2 => HT2.out w2 (hb2.trans (h2.mono hb2.size))
  have HL := Lib.hid ((HL.out.next hb).alloc (.cells #[.int .i64 c2, .int .i64 p2] 33 (0, 0)))
  clear hb2
  clear hb a0 a1 a2 b0 b1 b2 xa0 xa1 xa2 xb0 xb1 xb2 xf0 xf1
  obtain ⟨a0, a1, a2, b0, b1, b2⟩ := HB.out.six
  obtain ⟨xa0, xa1, xa2⟩ := box3 (HL.out (w3.heap.size, .cells #[.int .i64 kv, .int .i64 nv, .string ⟨#[]⟩] 25 (0, 0)) (by simp))
  obtain ⟨xb0, xb1, xb2⟩ := box3 (HL.out (w4.heap.size, .cells #[.int .i64 kv, .int .i64 nv, .string ⟨#[]⟩] 25 (0, 0)) (by simp))
  obtain ⟨xf0, xf1⟩ := box2 (HL.out (w4.heap.size + 1, .cells #[.int .i64 c1, .int .i64 p1] 33 (0, 0)) (by simp))
  obtain ⟨xg0, xg1⟩ := box2 (HL.out (w6.heap.size, .cells #[.int .i64 c2, .int .i64 p2] 33 (0, 0)) (by simp))
  go_wp2_with fail
  go_at_call 9
  refine (HT1.out _ (Below.refl _ _)).mono ?_
  rintro e w7 ⟨rfl, hb⟩
  have HB := Lib.hid (HB.out.next hb)
  have HT2 := Lib.hid (HT2.out w7 hb)
  have HL := Lib.hid (HL.out.next hb)
  clear hb a0 a1 a2 b0 b1 b2 xa0 xa1 xa2 xb0 xb1 xb2 xf0 xf1 xg0 xg1
  obtain ⟨a0, a1, a2, b0, b1, b2⟩ := HB.out.six
  obtain ⟨xa0, xa1, xa2⟩ := box3 (HL.out (w3.heap.size, .cells #[.int .i64 kv, .int .i64 nv, .string ⟨#[]⟩] 25 (0, 0)) (by simp))
  obtain ⟨xb0, xb1, xb2⟩ := box3 (HL.out (w4.heap.size, .cells #[.int .i64 kv, .int .i64 nv, .string ⟨#[]⟩] 25 (0, 0)) (by simp))
  obtain ⟨xf0, xf1⟩ := box2 (HL.out (w4.heap.size + 1, .cells #[.int .i64 c1, .int .i64 p1] 33 (0, 0)) (by simp))
  obtain ⟨xg0, xg1⟩ := box2 (HL.out (w6.heap.size, .cells #[.int .i64 c2, .int .i64 p2] 33 (0, 0)) (by simp))
  go_wp2_with fail
  go_at_call 9
  refine HT2.out.mono ?_
  rintro e w8 ⟨rfl, hb⟩
  have HB := Lib.hid (HB.out.next hb)
  have HL := Lib.hid (HL.out.next hb)
  clear hb a0 a1 a2 b0 b1 b2 xa0 xa1 xa2 xb0 xb1 xb2 xf0 xf1 xg0 xg1
  obtain ⟨a0, a1, a2, b0, b1, b2⟩ := HB.out.six
  obtain ⟨xa0, xa1, xa2⟩ := box3 (HL.out (w3.heap.size, .cells #[.int .i64 kv, .int .i64 nv, .string ⟨#[]⟩] 25 (0, 0)) (by simp))
  obtain ⟨xb0, xb1, xb2⟩ := box3 (HL.out (w4.heap.size, .cells #[.int .i64 kv, .int .i64 nv, .string ⟨#[]⟩] 25 (0, 0)) (by simp))
  obtain ⟨xf0, xf1⟩ := box2 (HL.out (w4.heap.size + 1, .cells #[.int .i64 c1, .int .i64 p1] 33 (0, 0)) (by simp))
  obtain ⟨xg0, xg1⟩ := box2 (HL.out (w6.heap.size, .cells #[.int .i64 c2, .int .i64 p2] 33 (0, 0)) (by simp))
  go_wp2_with fail
  go_at_call 4
  refine (AL.out _ (HG.out.below HB.out.bel)).mono ?_
  rintro e w9 ⟨rfl, hb⟩
  have HB := Lib.hid (HB.out.next hb)
  have HL := Lib.hid (HL.out.next hb)
  clear hb a0 a1 a2 b0 b1 b2 xa0 xa1 xa2 xb0 xb1 xb2 xf0 xf1 xg0 xg1
  obtain ⟨a0, a1, a2, b0, b1, b2⟩ := HB.out.six
  obtain ⟨xa0, xa1, xa2⟩ := box3 (HL.out (w3.heap.size, .cells #[.int .i64 kv, .int .i64 nv, .string ⟨#[]⟩] 25 (0, 0)) (by simp))
  obtain ⟨xb0, xb1, xb2⟩ := box3 (HL.out (w4.heap.size, .cells #[.int .i64 kv, .int .i64 nv, .string ⟨#[]⟩] 25 (0, 0)) (by simp))
  obtain ⟨xf0, xf1⟩ := box2 (HL.out (w4.heap.size + 1, .cells #[.int .i64 c1, .int .i64 p1] 33 (0, 0)) (by simp))
  obtain ⟨xg0, xg1⟩ := box2 (HL.out (w6.heap.size, .cells #[.int .i64 c2, .int .i64 p2] 33 (0, 0)) (by simp))
  go_wp2_with fail
  go_ret
  exact ⟨rfl, HB.out.bel⟩
theorem tells_nil {w w' : World} (hg : Handle w) (hb : Below w.heap.size w w') : Tells .nilIface 0 (-1) w' := fun _ h2 => told_nil _ ((hg.below hb).below h2)
theorem tells_at {w w' : World} (hg : Handle w) (hb : Below w.heap.size w w') {N : Nat} {c p : Int} (h : FaultAt w' c p (.iface 69 (.pointer (some ⟨N, 0, none⟩)))) (hc : c ≠ 0) (oc : i64ok c) (op : i64ok p) : Tells (.iface 69 (.pointer (some ⟨N, 0, none⟩))) c p w' := fun _ h2 => by
  refine told_at N c p _ ?_ hc oc op ((hg.below hb).below h2)
  obtain ⟨M, hv, hM⟩ := h
  exact ⟨M, hv, (h2.block _ (Array.getElem?_eq_some_iff.1 hM).1).trans hM⟩
def rvK : RV → Int
  | .ok k _ => k
  | .bad _ _ => 0
def rvN : RV → Int
  | .ok _ n => n
  | .bad _ _ => 0
def rvC : RV → Int
  | .ok _ _ => 0
  | .bad c _ => c
def rvP : RV → Int
  | .ok _ _ => -1
  | .bad _ p => p
theorem refRv_form (r : RV) : refRv r = .tuple #[.agg #[.int .i64 (rvK r), .int .i64 (rvN r), .string ⟨#[]⟩], .agg #[.int .i64 (rvC r), .int .i64 (rvP r)]] := by cases r <;> rfl
theorem cmpR_bad {op : Int} {x y : Val} {c p : Int} (h : cmpR op x y = .bad c p) : c ≠ 0 ∧ i64ok c ∧ i64ok p := by
  unfold cmpR at h
  repeat' split at h
  all_goals first | (cases h; unfold i64ok; omega) | (exact absurd h (by simp))
theorem compares_law (op : Int) (x y : Val) (ox : x.ok) (oy : y.ok) (w : World) (hg : Handle w) :
    Calls Tryd.prog 3 #[.int .i64 op, .agg #[.int .i64 x.k, .int .i64 x.n, .string x.s], .agg #[.int .i64 y.k, .int .i64 y.n, .string y.s]] w (Ans (.bool true) w) := by
  by_cases hl : 500 < x.s.size ∨ 500 < y.s.size
  · exact compares_long _ _ _ _ _ _ _ w hg hl
  have lx : x.s.size ≤ 9223372036854775807 := by omega
  have ly : y.s.size ≤ 9223372036854775807 := by omega
  have R := refCompare_any op x y ox oy lx ly
  rw [refRv_form] at R
  have T := refSign_any x y ox oy lx ly
  have hT : refSg x y = .tuple #[.int .i64 (if signP x y = -1 then signV x y else 0), .agg #[.int .i64 (if signP x y = -1 then 0 else 22), .int .i64 (signP x y)]] := by
    unfold refSg
    split
    · rename_i h; rw [h]
    · rfl
  rw [hT] at T
  refine compares_core op _ _ _ _ _ _ _ _ _ _ _ _ _ w hg (by omega) (by omega) (fun w hg => ?_) R (fun w hg => ?_) T
  · refine (compare_any op x y ox oy lx ly w).mono fun e w' ⟨hb, h⟩ => ?_
    generalize hr : cmpR op x y = r at h ⊢
    cases r with
    | ok k n => exact ⟨_, h, hb, tells_nil hg hb⟩
    | bad c p =>
      obtain ⟨N, he, hf⟩ := h
      obtain ⟨hc, oc, op'⟩ := cmpR_bad hr
      exact ⟨_, he, hb, tells_at hg hb hf hc oc op'⟩
  · refine (sign_any x y ox oy lx ly w).mono fun e w' ⟨hb, h⟩ => ?_
    rcases h with ⟨hp, he⟩ | ⟨hp, N, he, hf⟩
    · rw [if_pos hp, if_pos hp, hp]
      exact ⟨_, he, hb, tells_nil hg hb⟩
    · rw [if_neg (by omega), if_neg (by omega)]
      exact ⟨_, he, hb, tells_at hg hb hf (by omega) (by unfold i64ok; omega) (by unfold i64ok; omega)⟩
end Go.Proofs.YtjfbhajaddgmpaaDoor
