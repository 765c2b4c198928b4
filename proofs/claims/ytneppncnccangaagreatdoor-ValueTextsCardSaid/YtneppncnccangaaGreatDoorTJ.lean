/- ValueTexts: the law's own body answers true. -/
import Derived.Test.YtneppncnccangaaGreatDoorTI
import Derived.Test.YtneppncnccangaaGreatDoorTB
namespace Go.Proofs.YtneppncnccangaaGreatDoor
open Go.RowKit
attribute [local go_sem ↓] eqV

theorem eqB_refl (k n : Int) (s : ByteArray) : eqB k n s k n s = true := by unfold eqB; simp
def fobC (c p : Int) : Obj := .cells #[.int .i64 c, .int .i64 p, .nilIface, .int .i64 1] 53 (0, 0)
theorem Held.loneC {W : World} {L : List (Nat × Obj)} {b : Nat} {c p : Int} (h : Held W L) (hm : (b, fobC c p) ∈ L) : Lone W b c p := h (b, fobC c p) hm
theorem held_one (w : World) (x : Val) : Held (w.alloc (.cells #[.int .i64 x.k, .int .i64 x.n, .string x.s] 24)) [(w.heap.size, vob x)] := (Held.nil w).alloc (.cells #[.int .i64 x.k, .int .i64 x.n, .string x.s] 24)
set_option maxRecDepth 100000 in
set_option maxHeartbeats 20000000 in
theorem texts_law (k n : Int) (t : ByteArray) (hok : (⟨k, n, t⟩ : Val).ok) (s : ByteArray) (ht : t.size ≤ 9223372036854775807) (hs : s.size ≤ 9223372036854775807) (w : World) (hE : Env w) (hg : Handle w) :
    Calls Tryz.prog 4 #[.agg #[.int .i64 k, .int .i64 n, .string t], .string s] w (Ans (.bool true) w) := by
  have HE := Lib.hid hE
  have HG := Lib.hid hg
  have AL := Lib.hid alive_any
  have HB := Lib.hid (alloc_below w (.cells #[.int .i64 k, .int .i64 n, .string t] 24))
  have HL := Lib.hid (held_one w ⟨k, n, t⟩)
  obtain ⟨u, hu⟩ : ∃ u, Hid (u = textS ⟨k, n, t⟩) := ⟨_, Lib.hid rfl⟩
  have TXA : Hid (∀ w, Env w → Calls Tryz.prog 18 #[.agg #[.int .i64 k, .int .i64 n, .string t]] w (Ans (.string u) w)) := Lib.hid fun w h => by rw [hu.out]; exact text_any ⟨k, n, t⟩ hok ht w h
  have TXB : Hid (∀ w, Calls Tryz.prog 19 #[.agg #[.int .i64 k, .int .i64 n, .string t]] w (Ans (.string u) w)) := Lib.hid fun w => by rw [hu.out]; exact refText_any ⟨k, n, t⟩ hok ht w
  simp only at HL
  have hs9 : (s.size : Int) ≤ 9223372036854775807 := by omega
  have ht9 : (t.size : Int) ≤ 9223372036854775807 := by omega
  clear hE hg hu hok
  obtain ⟨x0, x1, x2⟩ := vobx (HL.out (w.heap.size, vob ⟨k, n, t⟩) (by simp))
  by_cases hl : t.size ≤ 500
  · have hl1 : ¬ (500 : Int) < (t.size : Int) := by omega
    by_cases hm : s.size ≤ 500
    · have hm1 : ¬ (500 : Int) < (s.size : Int) := by omega
      cases hr : readV s with
      | some q =>
        obtain ⟨qk, qn, qs⟩ := q
        have RDA : Hid (∀ w, Env w → Calls Tryz.prog 16 #[.string s] w fun e w' => e = .returned (.tuple #[.agg #[.int .i64 qk, .int .i64 qn, .string qs], .nilIface]) ∧ Below w.heap.size w w') := Lib.hid fun w h => by
          have := read_any s (by omega) w h
          rw [hr] at this
          exact this.mono fun e w' ⟨a, b⟩ => ⟨b, a⟩
        have RRA : Hid (∀ w, Calls Tryz.prog 17 #[.string s] w (Ans (.tuple #[.agg #[.int .i64 qk, .int .i64 qn, .string qs], .bool true]) w)) := Lib.hid fun w => by
          refine (refRead_any s (by omega) w).mono fun e w' ⟨a, b⟩ => ?_
          rw [hr] at b
          exact ⟨b, a⟩
        have f0 := eqB_refl qk qn qs
        clear hl hm hr hs ht
        go_enter Tryz.func4, Tryz.ntmps4
        go_upto_region 7 with (first
          | (go_at_call 16; (with_reducible refine (RDA.out _ (HE.out.below HB.out)).mono ?_)
             rintro e w1 ⟨rfl, hb⟩
             have HB := Lib.hid (HB.out.trans ((hb.trans ((alloc_below w1 (.cells #[.int .i64 qk, .int .i64 qn, .string qs] 24)).mono hb.size)).mono HB.out.size))
             have HL := Lib.hid ((HL.out.next hb).box qk qn qs)
             clear x0 x1 x2 hb
             obtain ⟨x0, x1, x2⟩ := vobx (HL.out (w.heap.size, vob ⟨k, n, t⟩) (by simp)))
          | (go_at_call 17; (with_reducible refine (RRA.out _).mono ?_)
             rintro e w2 ⟨rfl, hb⟩
             have HB := Lib.hid (HB.out.trans ((hb.trans ((alloc_below w2 (.cells #[.int .i64 qk, .int .i64 qn, .string qs] 24)).mono hb.size)).mono HB.out.size))
             have HL := Lib.hid ((HL.out.next hb).box qk qn qs)
             clear x0 x1 x2 hb
             obtain ⟨x0, x1, x2⟩ := vobx (HL.out (w.heap.size, vob ⟨k, n, t⟩) (by simp))))
        clear x0 x1 x2
        go_region_held3 (fun W => (W.cell? ⟨w.heap.size, 0, none⟩ = some (.int .i64 k) ∧ W.cell? ⟨w.heap.size, 1, none⟩ = some (.int .i64 n) ∧ W.cell? ⟨w.heap.size, 2, none⟩ = some (.string t) ∧ W.cell? ⟨w1.heap.size, 0, none⟩ = some (.int .i64 qk) ∧ W.cell? ⟨w1.heap.size, 1, none⟩ = some (.int .i64 qn) ∧ W.cell? ⟨w1.heap.size, 2, none⟩ = some (.string qs) ∧ W.cell? ⟨w2.heap.size, 0, none⟩ = some (.int .i64 qk) ∧ W.cell? ⟨w2.heap.size, 1, none⟩ = some (.int .i64 qn) ∧ W.cell? ⟨w2.heap.size, 2, none⟩ = some (.string qs)))
          (first
            | (obtain ⟨a0, a1, a2⟩ := vobx (HL.out (w.heap.size, vob ⟨k, n, t⟩) (by simp))
               obtain ⟨b0, b1, b2⟩ := vobx (k := qk) (n := qn) (s := qs) (HL.out (w1.heap.size, vob ⟨qk, qn, qs⟩) (by simp))
               obtain ⟨c0, c1, c2⟩ := vobx (k := qk) (n := qn) (s := qs) (HL.out (w2.heap.size, vob ⟨qk, qn, qs⟩) (by simp))
               exact ⟨a0, a1, a2, b0, b1, b2, c0, c1, c2⟩)
            | go_keep)
          (first
            | (go_at_call 5; (with_reducible refine (AL.out _ (HE.out.below (HB.out.trans ((drew_below _).mono HB.out.size)))).mono ?_); rintro e wa ⟨rfl, hb⟩
               have HB := Lib.hid ((HB.out.trans ((drew_below _).mono HB.out.size)).trans (hb.mono (HB.out.trans ((drew_below _).mono HB.out.size)).size))
               have HL := Lib.hid ((HL.out.next (drew_below _)).next hb)
               clear hb)
            | (go_at_call 18; (with_reducible refine (TXA.out _ (HE.out.below HB.out)).mono ?_); rintro e wb ⟨rfl, hb⟩
               have HB := Lib.hid (HB.out.trans (hb.mono HB.out.size))
               have HL := Lib.hid (HL.out.next hb)
               clear hb)
            | (go_at_call 19; (with_reducible refine (TXB.out _).mono ?_); rintro e wc ⟨rfl, hb⟩
               have HB := Lib.hid (HB.out.trans (hb.mono HB.out.size))
               have HL := Lib.hid (HL.out.next hb)
               clear hb)
            | fail)
        all_goals
          go_wp2_with fail
          go_ret
          exact ⟨rfl, HB.out⟩
      | none =>
        have RDA : Hid (∀ w, Env w → Calls Tryz.prog 16 #[.string s] w fun e w' => ∃ N : Nat, e = .returned (.tuple #[.agg #[.int .i64 0, .int .i64 0, .string ⟨#[]⟩], .iface 48 (.pointer (some ⟨N, 0, none⟩))]) ∧ w'.heap[N]? = some (fobC 23 0) ∧ Below w.heap.size w w') := Lib.hid fun w h => by
          have := read_any s (by omega) w h
          rw [hr] at this
          refine this.mono fun e w' ⟨a, v, b, c⟩ => ?_
          obtain ⟨N, rfl, hN⟩ := c
          exact ⟨N, b, hN, a⟩
        have RRA : Hid (∀ w, Calls Tryz.prog 17 #[.string s] w (Ans (.tuple #[.agg #[.int .i64 0, .int .i64 0, .string ⟨#[]⟩], .bool false]) w)) := Lib.hid fun w => by
          refine (refRead_any s (by omega) w).mono fun e w' ⟨a, b⟩ => ?_
          rw [hr] at b
          exact ⟨b, a⟩
        have f0 := eqB_refl 0 0 ⟨#[]⟩
        clear hl hm hr hs ht
        go_enter Tryz.func4, Tryz.ntmps4
        go_upto_region 7 with (first
          | (go_at_call 16; (with_reducible refine (RDA.out _ (HE.out.below HB.out)).mono ?_)
             rintro e w1 ⟨N1, rfl, hN, hb⟩
             have HB := Lib.hid (HB.out.trans ((hb.trans ((alloc_below w1 (.cells #[.int .i64 0, .int .i64 0, .string ⟨#[]⟩] 24)).mono hb.size)).mono HB.out.size))
             have HL := Lib.hid (((HL.out.next hb).cons (o := fobC 23 0) hN).box 0 0 ⟨#[]⟩)
             clear hN
             clear x0 x1 x2 hb
             obtain ⟨x0, x1, x2⟩ := vobx (HL.out (w.heap.size, vob ⟨k, n, t⟩) (by simp)))
          | (go_at_call 17; (with_reducible refine (RRA.out _).mono ?_)
             rintro e w2 ⟨rfl, hb⟩
             have HB := Lib.hid (HB.out.trans ((hb.trans ((alloc_below w2 (.cells #[.int .i64 0, .int .i64 0, .string ⟨#[]⟩] 24)).mono hb.size)).mono HB.out.size))
             have HL := Lib.hid ((HL.out.next hb).box 0 0 ⟨#[]⟩)
             clear x0 x1 x2 hb
             obtain ⟨x0, x1, x2⟩ := vobx (HL.out (w.heap.size, vob ⟨k, n, t⟩) (by simp)))
          | (go_at_call 10; (with_reducible refine (code_one (HL.out.loneC (b := N1) (c := 23) (p := 0) (by simp)) (HG.out.below HB.out)).mono ?_)
             rintro e w3 ⟨rfl, hb⟩
             have HB := Lib.hid (HB.out.trans (hb.mono HB.out.size))
             have HL := Lib.hid (HL.out.next hb)
             clear x0 x1 x2 hb
             obtain ⟨x0, x1, x2⟩ := vobx (HL.out (w.heap.size, vob ⟨k, n, t⟩) (by simp)))
          | (go_at_call 11; (with_reducible refine (at_one (HL.out.loneC (b := N1) (c := 23) (p := 0) (by simp)) (HG.out.below HB.out)).mono ?_)
             rintro e w4 ⟨rfl, hb⟩
             have HB := Lib.hid (HB.out.trans (hb.mono HB.out.size))
             have HL := Lib.hid (HL.out.next hb)
             clear x0 x1 x2 hb
             obtain ⟨x0, x1, x2⟩ := vobx (HL.out (w.heap.size, vob ⟨k, n, t⟩) (by simp))))
        clear x0 x1 x2
        go_region_held3 (fun W => (W.cell? ⟨w.heap.size, 0, none⟩ = some (.int .i64 k) ∧ W.cell? ⟨w.heap.size, 1, none⟩ = some (.int .i64 n) ∧ W.cell? ⟨w.heap.size, 2, none⟩ = some (.string t) ∧ W.cell? ⟨w1.heap.size, 0, none⟩ = some (.int .i64 0) ∧ W.cell? ⟨w1.heap.size, 1, none⟩ = some (.int .i64 0) ∧ W.cell? ⟨w1.heap.size, 2, none⟩ = some (.string ⟨#[]⟩) ∧ W.cell? ⟨w2.heap.size, 0, none⟩ = some (.int .i64 0) ∧ W.cell? ⟨w2.heap.size, 1, none⟩ = some (.int .i64 0) ∧ W.cell? ⟨w2.heap.size, 2, none⟩ = some (.string ⟨#[]⟩)))
          (first
            | (obtain ⟨a0, a1, a2⟩ := vobx (HL.out (w.heap.size, vob ⟨k, n, t⟩) (by simp))
               obtain ⟨b0, b1, b2⟩ := vobx (k := 0) (n := 0) (s := ⟨#[]⟩) (HL.out (w1.heap.size, vob ⟨0, 0, ⟨#[]⟩⟩) (by simp))
               obtain ⟨c0, c1, c2⟩ := vobx (k := 0) (n := 0) (s := ⟨#[]⟩) (HL.out (w2.heap.size, vob ⟨0, 0, ⟨#[]⟩⟩) (by simp))
               exact ⟨a0, a1, a2, b0, b1, b2, c0, c1, c2⟩)
            | go_keep)
          (first
            | (go_at_call 5; (with_reducible refine (AL.out _ (HE.out.below (HB.out.trans ((drew_below _).mono HB.out.size)))).mono ?_); rintro e wa ⟨rfl, hb⟩
               have HB := Lib.hid ((HB.out.trans ((drew_below _).mono HB.out.size)).trans (hb.mono (HB.out.trans ((drew_below _).mono HB.out.size)).size))
               have HL := Lib.hid ((HL.out.next (drew_below _)).next hb)
               clear hb)
            | (go_at_call 18; (with_reducible refine (TXA.out _ (HE.out.below HB.out)).mono ?_); rintro e wb ⟨rfl, hb⟩
               have HB := Lib.hid (HB.out.trans (hb.mono HB.out.size))
               have HL := Lib.hid (HL.out.next hb)
               clear hb)
            | (go_at_call 19; (with_reducible refine (TXB.out _).mono ?_); rintro e wc ⟨rfl, hb⟩
               have HB := Lib.hid (HB.out.trans (hb.mono HB.out.size))
               have HL := Lib.hid (HL.out.next hb)
               clear hb)
            | fail)
        all_goals
          go_wp2_with fail
          go_ret
          exact ⟨rfl, HB.out⟩
    · have hm1 : (500 : Int) < (s.size : Int) := by omega
      clear hl hm
      go_enter Tryz.func4, Tryz.ntmps4
      go_wp2_with (go_at_call 5; refine (AL.out _ (HE.out.below HB.out)).mono ?_; rintro e w1 ⟨rfl, hb⟩
                   have HB := Lib.hid (HB.out.trans (hb.mono HB.out.size))
                   clear hb)
      go_ret
      exact ⟨rfl, HB.out⟩
  · have hl1 : (500 : Int) < (t.size : Int) := by omega
    clear hl
    go_enter Tryz.func4, Tryz.ntmps4
    go_wp2_with (go_at_call 5; refine (AL.out _ (HE.out.below HB.out)).mono ?_; rintro e w1 ⟨rfl, hb⟩
                 have HB := Lib.hid (HB.out.trans (hb.mono HB.out.size))
                 clear hb)
    go_ret
    exact ⟨rfl, HB.out⟩
#print axioms texts_law
end Go.Proofs.YtneppncnccangaaGreatDoor
