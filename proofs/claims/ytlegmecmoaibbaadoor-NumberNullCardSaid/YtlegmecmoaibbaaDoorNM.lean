/- NumberNull: the law's own body answers true. -/
import Derived.Test.YtlegmecmoaibbaaDoorNK
import Derived.Test.YtlegmecmoaibbaaDoorS
namespace Go.Proofs.YtlegmecmoaibbaaDoor
open Go.RowKit
attribute [local go_sem ↓] eqV

theorem Held.alloc2 {W : World} {L : List (Nat × Obj)} (h : Held W L) (o p : Obj) : Held ((W.alloc o).alloc p) ((W.heap.size + 1, p) :: (W.heap.size, o) :: L) := by
  have h2 := (h.alloc o).alloc p
  have e : (W.alloc o).heap.size = W.heap.size + 1 := by simp
  rw [e] at h2
  exact h2
theorem Held.allocS {w : World} {L : List (Nat × Obj)} {a b c : Addr} {x y z : Value} (h : Held (((w.setCell a x).setCell b y).setCell c z) L) (p : Obj) : Held ((((w.setCell a x).setCell b y).setCell c z).alloc p) ((w.heap.size, p) :: L) := by
  have h2 := h.alloc p
  have e : (((w.setCell a x).setCell b y).setCell c z).heap.size = w.heap.size := by simp [World.setCell]
  rw [e] at h2
  exact h2
theorem below_setAlloc {w0 W : World} (h : Below w0.heap.size w0 W) (o : Obj) : Below w0.heap.size w0 (W.alloc o) := h.trans ((alloc_below W o).mono h.size)
theorem ret_boolN {a b : Bool} (h : a = b) : Ending.returned (.bool a) = .returned (.bool b) := by rw [h]
theorem eq00 : eqB 0 0 ⟨#[]⟩ 0 0 ⟨#[]⟩ = true := by unfold eqB; simp
theorem reckon_nul (op k n j m : Int) (hk : termP k n) (hj : termP j m) (hz : k = 0 ∨ j = 0) (hn : i64ok n) (hm : i64ok m) :
    (op < 3 ∨ 6 < op → ∀ w, Calls Tryd.prog 28 #[.int .i64 op, .agg #[.int .i64 k, .int .i64 n, .string ⟨#[]⟩], .agg #[.int .i64 j, .int .i64 m, .string ⟨#[]⟩]] w fun e w' => ∃ N, e = .returned (.tuple #[.agg #[.int .i64 0, .int .i64 0, .string ⟨#[]⟩], .iface 102 (.pointer (some ⟨N, 0, none⟩))]) ∧ Below w.heap.size w w') ∧
    (¬ (op < 3 ∨ 6 < op) → ∀ w, Calls Tryd.prog 28 #[.int .i64 op, .agg #[.int .i64 k, .int .i64 n, .string ⟨#[]⟩], .agg #[.int .i64 j, .int .i64 m, .string ⟨#[]⟩]] w fun e w' => e = .returned (.tuple #[.agg #[.int .i64 0, .int .i64 0, .string ⟨#[]⟩], .nilIface]) ∧ Below w.heap.size w w') := by
  refine ⟨fun hp w => ?_, fun hp w => ?_⟩
  all_goals
    have h := reckon_any op k n j m hk hj hn hm w
    rw [reckon_null op k n j m hz] at h
    refine h.mono fun e w' hh => ?_
    obtain ⟨v, rfl, hb, hv⟩ := hh.split
    rcases hv with ⟨hp', N, rfl⟩ | ⟨hp', rfl⟩
  · exact ⟨N, rfl, hb⟩
  · exact absurd hp hp'
  · exact absurd hp' hp
  · exact ⟨rfl, hb⟩
theorem compare_nul (op k n j m : Int) (hk : termP k n) (hj : termP j m) (hz : k = 0 ∨ j = 0) :
    (op < 8 ∨ 13 < op → ∀ w, Calls Tryd.prog 21 #[.int .i64 op, .agg #[.int .i64 k, .int .i64 n, .string ⟨#[]⟩], .agg #[.int .i64 j, .int .i64 m, .string ⟨#[]⟩]] w fun e w' => ∃ N, e = .returned (.tuple #[.agg #[.int .i64 0, .int .i64 0, .string ⟨#[]⟩], .iface 102 (.pointer (some ⟨N, 0, none⟩))]) ∧ Below w.heap.size w w') ∧
    (¬ (op < 8 ∨ 13 < op) → ∀ w, Calls Tryd.prog 21 #[.int .i64 op, .agg #[.int .i64 k, .int .i64 n, .string ⟨#[]⟩], .agg #[.int .i64 j, .int .i64 m, .string ⟨#[]⟩]] w fun e w' => e = .returned (.tuple #[.agg #[.int .i64 0, .int .i64 0, .string ⟨#[]⟩], .nilIface]) ∧ Below w.heap.size w w') := by
  refine ⟨fun hp w => ?_, fun hp w => ?_⟩
  all_goals
    have h := compare_null op k n j m hk hj hz w
    unfold cmpNull at h
    refine h.mono fun e w' hh => ?_
    obtain ⟨v, rfl, hb, hv⟩ := hh.split
    rcases hv with ⟨hp', N, rfl⟩ | ⟨hp', rfl⟩
  · exact ⟨N, rfl, hb⟩
  · exact absurd hp hp'
  · exact absurd hp' hp
  · exact ⟨rfl, hb⟩
set_option maxRecDepth 100000 in
set_option maxHeartbeats 8000000 in
theorem null_law_a (n op : Int) (d : Bool) (hn : i64ok n) (hop : op < 3) (w : World) (hg : Handle w) : Calls Tryd.prog 10 #[.int .i64 n, .bool d, .int .i64 op] w (Ans (.bool true) w) := by
  have HG := Lib.hid hg
  have WH := Lib.hid whole_any
  have DC := Lib.hid dec_any
  have AL := Lib.hid aliveN_any
  have HB := Lib.hid (Below.refl w.heap.size w)
  have HL := Lib.hid (Held.nil w)
  have f0 := eq00
  have o0 : i64ok 0 := by unfold i64ok; omega
  have h1 : ¬ (3 : Int) ≤ op := by omega
  have h3 : ¬ (8 : Int) ≤ op := by omega
  cases d with
  | false =>
    have R1 := Lib.hid (((reckon_nul op 2 n 0 0 (.inl rfl) (.inr (.inr ⟨rfl, rfl⟩)) (.inr rfl) hn o0).1 (by omega)))
    have R2 := Lib.hid (((reckon_nul op 0 0 2 n (.inr (.inr ⟨rfl, rfl⟩)) (.inl rfl) (.inl rfl) o0 hn).1 (by omega)))
    have C1 := Lib.hid (((compare_nul op 2 n 0 0 (.inl rfl) (.inr (.inr ⟨rfl, rfl⟩)) (.inr rfl)).1 (by omega)))
    have C2 := Lib.hid (((compare_nul op 0 0 2 n (.inr (.inr ⟨rfl, rfl⟩)) (.inl rfl) (.inl rfl)).1 (by omega)))
    clear hg hn hop o0
    go_enter Tryd.func10, Tryd.ntmps10
    go_wp2_with fail
    go_at_call 26
    refine (WH.out _ _).mono ?_
    rintro e w1 ⟨rfl, hb⟩
    have HB := Lib.hid (HB.out.trans ((hb.trans ((alloc2_below _ (.cells #[.int .i64 2, .int .i64 n, .string ⟨#[]⟩] 24) (.cells #[.int .i64 0, .int .i64 0, .string ⟨#[]⟩] 24)).mono hb.size)).mono HB.out.size))
    have HL := Lib.hid ((HL.out.next hb).alloc2 (.cells #[.int .i64 2, .int .i64 n, .string ⟨#[]⟩] 24 (0, 0)) (.cells #[.int .i64 0, .int .i64 0, .string ⟨#[]⟩] 24 (0, 0)))
    clear hb
    obtain ⟨v0, v1, v2⟩ := box3 (HL.out (w1.heap.size, .cells #[.int .i64 2, .int .i64 n, .string ⟨#[]⟩] 24 (0, 0)) (by simp))
    obtain ⟨n0, n1, n2⟩ := box3 (HL.out (w1.heap.size + 1, .cells #[.int .i64 0, .int .i64 0, .string ⟨#[]⟩] 24 (0, 0)) (by simp))
    go_wp2_with fail
    go_at_call 28
    ((with_reducible refine (R1.out _).mono ?_); rintro e w3 ⟨N3, rfl, hb⟩)
    have HB := Lib.hid (HB.out.trans ((hb.trans ((alloc_below _ (.cells #[.int .i64 0, .int .i64 0, .string ⟨#[]⟩] 24)).mono hb.size)).mono HB.out.size))
    have HL := Lib.hid ((HL.out.next hb).alloc (.cells #[.int .i64 0, .int .i64 0, .string ⟨#[]⟩] 24 (0, 0)))
    clear hb v0 v1 v2 n0 n1 n2
    obtain ⟨v0, v1, v2⟩ := box3 (HL.out (w1.heap.size, .cells #[.int .i64 2, .int .i64 n, .string ⟨#[]⟩] 24 (0, 0)) (by simp))
    obtain ⟨n0, n1, n2⟩ := box3 (HL.out (w1.heap.size + 1, .cells #[.int .i64 0, .int .i64 0, .string ⟨#[]⟩] 24 (0, 0)) (by simp))
    go_wp2_with fail
    go_at_call 28
    ((with_reducible refine (R2.out _).mono ?_); rintro e w4 ⟨N4, rfl, hb⟩)
    have HB := Lib.hid (HB.out.trans ((hb.trans ((alloc_below _ (.cells #[.int .i64 0, .int .i64 0, .string ⟨#[]⟩] 24)).mono hb.size)).mono HB.out.size))
    have HL := Lib.hid ((HL.out.next hb).alloc (.cells #[.int .i64 0, .int .i64 0, .string ⟨#[]⟩] 24 (0, 0)))
    clear hb v0 v1 v2 n0 n1 n2
    obtain ⟨v0, v1, v2⟩ := box3 (HL.out (w1.heap.size, .cells #[.int .i64 2, .int .i64 n, .string ⟨#[]⟩] 24 (0, 0)) (by simp))
    obtain ⟨n0, n1, n2⟩ := box3 (HL.out (w1.heap.size + 1, .cells #[.int .i64 0, .int .i64 0, .string ⟨#[]⟩] 24 (0, 0)) (by simp))
    go_wp2_with fail
    go_at_call 21
    ((with_reducible refine (C1.out _).mono ?_); rintro e w5 ⟨N5, rfl, hb⟩)
    have HB := Lib.hid (HB.out.trans ((hb.trans ((alloc_below _ (.cells #[.int .i64 0, .int .i64 0, .string ⟨#[]⟩] 24)).mono hb.size)).mono HB.out.size))
    have HL := Lib.hid ((HL.out.next hb).alloc (.cells #[.int .i64 0, .int .i64 0, .string ⟨#[]⟩] 24 (0, 0)))
    clear hb v0 v1 v2 n0 n1 n2
    obtain ⟨v0, v1, v2⟩ := box3 (HL.out (w1.heap.size, .cells #[.int .i64 2, .int .i64 n, .string ⟨#[]⟩] 24 (0, 0)) (by simp))
    obtain ⟨n0, n1, n2⟩ := box3 (HL.out (w1.heap.size + 1, .cells #[.int .i64 0, .int .i64 0, .string ⟨#[]⟩] 24 (0, 0)) (by simp))
    go_wp2_with fail
    go_at_call 21
    ((with_reducible refine (C2.out _).mono ?_); rintro e w6 ⟨N6, rfl, hb⟩)
    have HB := Lib.hid (HB.out.trans ((hb.trans ((alloc_below _ (.cells #[.int .i64 0, .int .i64 0, .string ⟨#[]⟩] 24)).mono hb.size)).mono HB.out.size))
    have HL := Lib.hid ((HL.out.next hb).alloc (.cells #[.int .i64 0, .int .i64 0, .string ⟨#[]⟩] 24 (0, 0)))
    clear hb v0 v1 v2 n0 n1 n2
    obtain ⟨v0, v1, v2⟩ := box3 (HL.out (w1.heap.size, .cells #[.int .i64 2, .int .i64 n, .string ⟨#[]⟩] 24 (0, 0)) (by simp))
    obtain ⟨n0, n1, n2⟩ := box3 (HL.out (w1.heap.size + 1, .cells #[.int .i64 0, .int .i64 0, .string ⟨#[]⟩] 24 (0, 0)) (by simp))
    go_wp2_with fail
    go_at_call 20
    refine (AL.out _ (HG.out.below HB.out)).mono ?_
    rintro e w9 ⟨rfl, hb⟩
    have HB := Lib.hid (HB.out.trans (hb.mono HB.out.size))
    have HL := Lib.hid (HL.out.next hb)
    clear hb v0 v1 v2 n0 n1 n2
    obtain ⟨n0, n1, n2⟩ := box3 (HL.out (w1.heap.size + 1, .cells #[.int .i64 0, .int .i64 0, .string ⟨#[]⟩] 24 (0, 0)) (by simp))
    obtain ⟨a0, a1, a2⟩ := box3 (HL.out (w3.heap.size, .cells #[.int .i64 0, .int .i64 0, .string ⟨#[]⟩] 24 (0, 0)) (by simp))
    obtain ⟨b0, b1, b2⟩ := box3 (HL.out (w4.heap.size, .cells #[.int .i64 0, .int .i64 0, .string ⟨#[]⟩] 24 (0, 0)) (by simp))
    obtain ⟨c0, c1, c2⟩ := box3 (HL.out (w5.heap.size, .cells #[.int .i64 0, .int .i64 0, .string ⟨#[]⟩] 24 (0, 0)) (by simp))
    obtain ⟨d0, d1, d2⟩ := box3 (HL.out (w6.heap.size, .cells #[.int .i64 0, .int .i64 0, .string ⟨#[]⟩] 24 (0, 0)) (by simp))
    go_wp2_with fail
    go_ret
    first | exact ⟨rfl, HB.out⟩ | exact ⟨ret_boolN (by simp; omega), HB.out⟩
  | true =>
    have R1 := Lib.hid (((reckon_nul op 3 n 0 0 (.inr (.inl rfl)) (.inr (.inr ⟨rfl, rfl⟩)) (.inr rfl) hn o0).1 (by omega)))
    have R2 := Lib.hid (((reckon_nul op 0 0 3 n (.inr (.inr ⟨rfl, rfl⟩)) (.inr (.inl rfl)) (.inl rfl) o0 hn).1 (by omega)))
    have C1 := Lib.hid (((compare_nul op 3 n 0 0 (.inr (.inl rfl)) (.inr (.inr ⟨rfl, rfl⟩)) (.inr rfl)).1 (by omega)))
    have C2 := Lib.hid (((compare_nul op 0 0 3 n (.inr (.inr ⟨rfl, rfl⟩)) (.inr (.inl rfl)) (.inl rfl)).1 (by omega)))
    clear hg hn hop o0
    go_enter Tryd.func10, Tryd.ntmps10
    go_wp2_with fail
    go_at_call 26
    refine (WH.out _ _).mono ?_
    rintro e w1 ⟨rfl, hb⟩
    have HW : Hid (w.heap.size ≤ w1.heap.size) := Lib.hid (HB.out.trans (hb.mono HB.out.size)).size
    have HB := Lib.hid (HB.out.trans ((hb.trans ((alloc_below _ (.cells #[.int .i64 2, .int .i64 n, .string ⟨#[]⟩] 24)).mono hb.size)).mono HB.out.size))
    have HL := Lib.hid ((HL.out.next hb).alloc (.cells #[.int .i64 2, .int .i64 n, .string ⟨#[]⟩] 24 (0, 0)))
    clear hb
    go_wp2_with fail
    go_at_call 27
    refine (DC.out _ _).mono ?_
    rintro e w2 ⟨rfl, hb⟩
    have HL := Lib.hid (HL.out.next hb)
    have hv := HL.out _ (List.mem_cons_self ..)
    obtain ⟨q0, q1, q2⟩ := box3 hv
    have z0 := frozen3 hv 0
    have z1 := frozen3 hv 1
    have z2 := frozen3 hv 2
    clear hv
    have HB := Lib.hid (below_setAlloc (set3_below0 (HB.out.trans (hb.mono HB.out.size)) HW.out (.int .i64 3) (.int .i64 n) (.string ⟨#[]⟩)) (.cells #[.int .i64 0, .int .i64 0, .string ⟨#[]⟩] 24))
    have HL := Lib.hid (Held.allocS (Held.cast (HL.out.set3 (fun _ h => absurd h (by simp)) 0 1 2 (.int .i64 3) (.int .i64 n) (.string ⟨#[]⟩)) (show _ = .cells #[.int .i64 3, .int .i64 n, .string ⟨#[]⟩] 24 (0, 0) from rfl)) (.cells #[.int .i64 0, .int .i64 0, .string ⟨#[]⟩] 24 (0, 0)))
    clear hb
    obtain ⟨v0, v1, v2⟩ := box3 (HL.out (w1.heap.size, .cells #[.int .i64 3, .int .i64 n, .string ⟨#[]⟩] 24 (0, 0)) (by simp))
    obtain ⟨n0, n1, n2⟩ := box3 (HL.out (w2.heap.size, .cells #[.int .i64 0, .int .i64 0, .string ⟨#[]⟩] 24 (0, 0)) (by simp))
    go_wp2_with fail
    go_at_call 28
    ((with_reducible refine (R1.out _).mono ?_); rintro e w3 ⟨N3, rfl, hb⟩)
    have HB := Lib.hid (HB.out.trans ((hb.trans ((alloc_below _ (.cells #[.int .i64 0, .int .i64 0, .string ⟨#[]⟩] 24)).mono hb.size)).mono HB.out.size))
    have HL := Lib.hid ((HL.out.next hb).alloc (.cells #[.int .i64 0, .int .i64 0, .string ⟨#[]⟩] 24 (0, 0)))
    clear hb v0 v1 v2 n0 n1 n2
    obtain ⟨v0, v1, v2⟩ := box3 (HL.out (w1.heap.size, .cells #[.int .i64 3, .int .i64 n, .string ⟨#[]⟩] 24 (0, 0)) (by simp))
    obtain ⟨n0, n1, n2⟩ := box3 (HL.out (w2.heap.size, .cells #[.int .i64 0, .int .i64 0, .string ⟨#[]⟩] 24 (0, 0)) (by simp))
    go_wp2_with fail
    go_at_call 28
    ((with_reducible refine (R2.out _).mono ?_); rintro e w4 ⟨N4, rfl, hb⟩)
    have HB := Lib.hid (HB.out.trans ((hb.trans ((alloc_below _ (.cells #[.int .i64 0, .int .i64 0, .string ⟨#[]⟩] 24)).mono hb.size)).mono HB.out.size))
    have HL := Lib.hid ((HL.out.next hb).alloc (.cells #[.int .i64 0, .int .i64 0, .string ⟨#[]⟩] 24 (0, 0)))
    clear hb v0 v1 v2 n0 n1 n2
    obtain ⟨v0, v1, v2⟩ := box3 (HL.out (w1.heap.size, .cells #[.int .i64 3, .int .i64 n, .string ⟨#[]⟩] 24 (0, 0)) (by simp))
    obtain ⟨n0, n1, n2⟩ := box3 (HL.out (w2.heap.size, .cells #[.int .i64 0, .int .i64 0, .string ⟨#[]⟩] 24 (0, 0)) (by simp))
    go_wp2_with fail
    go_at_call 21
    ((with_reducible refine (C1.out _).mono ?_); rintro e w5 ⟨N5, rfl, hb⟩)
    have HB := Lib.hid (HB.out.trans ((hb.trans ((alloc_below _ (.cells #[.int .i64 0, .int .i64 0, .string ⟨#[]⟩] 24)).mono hb.size)).mono HB.out.size))
    have HL := Lib.hid ((HL.out.next hb).alloc (.cells #[.int .i64 0, .int .i64 0, .string ⟨#[]⟩] 24 (0, 0)))
    clear hb v0 v1 v2 n0 n1 n2
    obtain ⟨v0, v1, v2⟩ := box3 (HL.out (w1.heap.size, .cells #[.int .i64 3, .int .i64 n, .string ⟨#[]⟩] 24 (0, 0)) (by simp))
    obtain ⟨n0, n1, n2⟩ := box3 (HL.out (w2.heap.size, .cells #[.int .i64 0, .int .i64 0, .string ⟨#[]⟩] 24 (0, 0)) (by simp))
    go_wp2_with fail
    go_at_call 21
    ((with_reducible refine (C2.out _).mono ?_); rintro e w6 ⟨N6, rfl, hb⟩)
    have HB := Lib.hid (HB.out.trans ((hb.trans ((alloc_below _ (.cells #[.int .i64 0, .int .i64 0, .string ⟨#[]⟩] 24)).mono hb.size)).mono HB.out.size))
    have HL := Lib.hid ((HL.out.next hb).alloc (.cells #[.int .i64 0, .int .i64 0, .string ⟨#[]⟩] 24 (0, 0)))
    clear hb v0 v1 v2 n0 n1 n2
    obtain ⟨v0, v1, v2⟩ := box3 (HL.out (w1.heap.size, .cells #[.int .i64 3, .int .i64 n, .string ⟨#[]⟩] 24 (0, 0)) (by simp))
    obtain ⟨n0, n1, n2⟩ := box3 (HL.out (w2.heap.size, .cells #[.int .i64 0, .int .i64 0, .string ⟨#[]⟩] 24 (0, 0)) (by simp))
    go_wp2_with fail
    go_at_call 20
    refine (AL.out _ (HG.out.below HB.out)).mono ?_
    rintro e w9 ⟨rfl, hb⟩
    have HB := Lib.hid (HB.out.trans (hb.mono HB.out.size))
    have HL := Lib.hid (HL.out.next hb)
    clear hb v0 v1 v2 n0 n1 n2
    obtain ⟨n0, n1, n2⟩ := box3 (HL.out (w2.heap.size, .cells #[.int .i64 0, .int .i64 0, .string ⟨#[]⟩] 24 (0, 0)) (by simp))
    obtain ⟨a0, a1, a2⟩ := box3 (HL.out (w3.heap.size, .cells #[.int .i64 0, .int .i64 0, .string ⟨#[]⟩] 24 (0, 0)) (by simp))
    obtain ⟨b0, b1, b2⟩ := box3 (HL.out (w4.heap.size, .cells #[.int .i64 0, .int .i64 0, .string ⟨#[]⟩] 24 (0, 0)) (by simp))
    obtain ⟨c0, c1, c2⟩ := box3 (HL.out (w5.heap.size, .cells #[.int .i64 0, .int .i64 0, .string ⟨#[]⟩] 24 (0, 0)) (by simp))
    obtain ⟨d0, d1, d2⟩ := box3 (HL.out (w6.heap.size, .cells #[.int .i64 0, .int .i64 0, .string ⟨#[]⟩] 24 (0, 0)) (by simp))
    go_wp2_with fail
    go_ret
    first | exact ⟨rfl, HB.out⟩ | exact ⟨ret_boolN (by simp; omega), HB.out⟩
set_option maxRecDepth 100000 in
set_option maxHeartbeats 8000000 in
theorem null_law_b (n op : Int) (d : Bool) (hn : i64ok n) (hop : 3 ≤ op ∧ op ≤ 6) (w : World) (hg : Handle w) : Calls Tryd.prog 10 #[.int .i64 n, .bool d, .int .i64 op] w (Ans (.bool true) w) := by
  have HG := Lib.hid hg
  have WH := Lib.hid whole_any
  have DC := Lib.hid dec_any
  have AL := Lib.hid aliveN_any
  have HB := Lib.hid (Below.refl w.heap.size w)
  have HL := Lib.hid (Held.nil w)
  have f0 := eq00
  have o0 : i64ok 0 := by unfold i64ok; omega
  have h1 : (3 : Int) ≤ op := by omega
  have h2 : op ≤ 6 := by omega
  have h3 : ¬ (8 : Int) ≤ op := by omega
  cases d with
  | false =>
    have R1 := Lib.hid (((reckon_nul op 2 n 0 0 (.inl rfl) (.inr (.inr ⟨rfl, rfl⟩)) (.inr rfl) hn o0).2 (by omega)))
    have R2 := Lib.hid (((reckon_nul op 0 0 2 n (.inr (.inr ⟨rfl, rfl⟩)) (.inl rfl) (.inl rfl) o0 hn).2 (by omega)))
    have C1 := Lib.hid (((compare_nul op 2 n 0 0 (.inl rfl) (.inr (.inr ⟨rfl, rfl⟩)) (.inr rfl)).1 (by omega)))
    have C2 := Lib.hid (((compare_nul op 0 0 2 n (.inr (.inr ⟨rfl, rfl⟩)) (.inl rfl) (.inl rfl)).1 (by omega)))
    clear hg hn hop o0
    go_enter Tryd.func10, Tryd.ntmps10
    go_wp2_with fail
    go_at_call 26
    refine (WH.out _ _).mono ?_
    rintro e w1 ⟨rfl, hb⟩
    have HB := Lib.hid (HB.out.trans ((hb.trans ((alloc2_below _ (.cells #[.int .i64 2, .int .i64 n, .string ⟨#[]⟩] 24) (.cells #[.int .i64 0, .int .i64 0, .string ⟨#[]⟩] 24)).mono hb.size)).mono HB.out.size))
    have HL := Lib.hid ((HL.out.next hb).alloc2 (.cells #[.int .i64 2, .int .i64 n, .string ⟨#[]⟩] 24 (0, 0)) (.cells #[.int .i64 0, .int .i64 0, .string ⟨#[]⟩] 24 (0, 0)))
    clear hb
    obtain ⟨v0, v1, v2⟩ := box3 (HL.out (w1.heap.size, .cells #[.int .i64 2, .int .i64 n, .string ⟨#[]⟩] 24 (0, 0)) (by simp))
    obtain ⟨n0, n1, n2⟩ := box3 (HL.out (w1.heap.size + 1, .cells #[.int .i64 0, .int .i64 0, .string ⟨#[]⟩] 24 (0, 0)) (by simp))
    go_wp2_with fail
    go_at_call 28
    ((with_reducible refine (R1.out _).mono ?_); rintro e w3 ⟨rfl, hb⟩)
    have HB := Lib.hid (HB.out.trans ((hb.trans ((alloc_below _ (.cells #[.int .i64 0, .int .i64 0, .string ⟨#[]⟩] 24)).mono hb.size)).mono HB.out.size))
    have HL := Lib.hid ((HL.out.next hb).alloc (.cells #[.int .i64 0, .int .i64 0, .string ⟨#[]⟩] 24 (0, 0)))
    clear hb v0 v1 v2 n0 n1 n2
    obtain ⟨v0, v1, v2⟩ := box3 (HL.out (w1.heap.size, .cells #[.int .i64 2, .int .i64 n, .string ⟨#[]⟩] 24 (0, 0)) (by simp))
    obtain ⟨n0, n1, n2⟩ := box3 (HL.out (w1.heap.size + 1, .cells #[.int .i64 0, .int .i64 0, .string ⟨#[]⟩] 24 (0, 0)) (by simp))
    go_wp2_with fail
    go_at_call 28
    ((with_reducible refine (R2.out _).mono ?_); rintro e w4 ⟨rfl, hb⟩)
    have HB := Lib.hid (HB.out.trans ((hb.trans ((alloc_below _ (.cells #[.int .i64 0, .int .i64 0, .string ⟨#[]⟩] 24)).mono hb.size)).mono HB.out.size))
    have HL := Lib.hid ((HL.out.next hb).alloc (.cells #[.int .i64 0, .int .i64 0, .string ⟨#[]⟩] 24 (0, 0)))
    clear hb v0 v1 v2 n0 n1 n2
    obtain ⟨v0, v1, v2⟩ := box3 (HL.out (w1.heap.size, .cells #[.int .i64 2, .int .i64 n, .string ⟨#[]⟩] 24 (0, 0)) (by simp))
    obtain ⟨n0, n1, n2⟩ := box3 (HL.out (w1.heap.size + 1, .cells #[.int .i64 0, .int .i64 0, .string ⟨#[]⟩] 24 (0, 0)) (by simp))
    go_wp2_with fail
    go_at_call 21
    ((with_reducible refine (C1.out _).mono ?_); rintro e w5 ⟨N5, rfl, hb⟩)
    have HB := Lib.hid (HB.out.trans ((hb.trans ((alloc_below _ (.cells #[.int .i64 0, .int .i64 0, .string ⟨#[]⟩] 24)).mono hb.size)).mono HB.out.size))
    have HL := Lib.hid ((HL.out.next hb).alloc (.cells #[.int .i64 0, .int .i64 0, .string ⟨#[]⟩] 24 (0, 0)))
    clear hb v0 v1 v2 n0 n1 n2
    obtain ⟨v0, v1, v2⟩ := box3 (HL.out (w1.heap.size, .cells #[.int .i64 2, .int .i64 n, .string ⟨#[]⟩] 24 (0, 0)) (by simp))
    obtain ⟨n0, n1, n2⟩ := box3 (HL.out (w1.heap.size + 1, .cells #[.int .i64 0, .int .i64 0, .string ⟨#[]⟩] 24 (0, 0)) (by simp))
    go_wp2_with fail
    go_at_call 21
    ((with_reducible refine (C2.out _).mono ?_); rintro e w6 ⟨N6, rfl, hb⟩)
    have HB := Lib.hid (HB.out.trans ((hb.trans ((alloc_below _ (.cells #[.int .i64 0, .int .i64 0, .string ⟨#[]⟩] 24)).mono hb.size)).mono HB.out.size))
    have HL := Lib.hid ((HL.out.next hb).alloc (.cells #[.int .i64 0, .int .i64 0, .string ⟨#[]⟩] 24 (0, 0)))
    clear hb v0 v1 v2 n0 n1 n2
    obtain ⟨v0, v1, v2⟩ := box3 (HL.out (w1.heap.size, .cells #[.int .i64 2, .int .i64 n, .string ⟨#[]⟩] 24 (0, 0)) (by simp))
    obtain ⟨n0, n1, n2⟩ := box3 (HL.out (w1.heap.size + 1, .cells #[.int .i64 0, .int .i64 0, .string ⟨#[]⟩] 24 (0, 0)) (by simp))
    go_wp2_with fail
    go_at_call 20
    refine (AL.out _ (HG.out.below HB.out)).mono ?_
    rintro e w9 ⟨rfl, hb⟩
    have HB := Lib.hid (HB.out.trans (hb.mono HB.out.size))
    have HL := Lib.hid (HL.out.next hb)
    clear hb v0 v1 v2 n0 n1 n2
    obtain ⟨n0, n1, n2⟩ := box3 (HL.out (w1.heap.size + 1, .cells #[.int .i64 0, .int .i64 0, .string ⟨#[]⟩] 24 (0, 0)) (by simp))
    obtain ⟨a0, a1, a2⟩ := box3 (HL.out (w3.heap.size, .cells #[.int .i64 0, .int .i64 0, .string ⟨#[]⟩] 24 (0, 0)) (by simp))
    obtain ⟨b0, b1, b2⟩ := box3 (HL.out (w4.heap.size, .cells #[.int .i64 0, .int .i64 0, .string ⟨#[]⟩] 24 (0, 0)) (by simp))
    obtain ⟨c0, c1, c2⟩ := box3 (HL.out (w5.heap.size, .cells #[.int .i64 0, .int .i64 0, .string ⟨#[]⟩] 24 (0, 0)) (by simp))
    obtain ⟨d0, d1, d2⟩ := box3 (HL.out (w6.heap.size, .cells #[.int .i64 0, .int .i64 0, .string ⟨#[]⟩] 24 (0, 0)) (by simp))
    go_wp2_with fail
    go_ret
    first | exact ⟨rfl, HB.out⟩ | exact ⟨ret_boolN (by simp; omega), HB.out⟩
  | true =>
    have R1 := Lib.hid (((reckon_nul op 3 n 0 0 (.inr (.inl rfl)) (.inr (.inr ⟨rfl, rfl⟩)) (.inr rfl) hn o0).2 (by omega)))
    have R2 := Lib.hid (((reckon_nul op 0 0 3 n (.inr (.inr ⟨rfl, rfl⟩)) (.inr (.inl rfl)) (.inl rfl) o0 hn).2 (by omega)))
    have C1 := Lib.hid (((compare_nul op 3 n 0 0 (.inr (.inl rfl)) (.inr (.inr ⟨rfl, rfl⟩)) (.inr rfl)).1 (by omega)))
    have C2 := Lib.hid (((compare_nul op 0 0 3 n (.inr (.inr ⟨rfl, rfl⟩)) (.inr (.inl rfl)) (.inl rfl)).1 (by omega)))
    clear hg hn hop o0
    go_enter Tryd.func10, Tryd.ntmps10
    go_wp2_with fail
    go_at_call 26
    refine (WH.out _ _).mono ?_
    rintro e w1 ⟨rfl, hb⟩
    have HW : Hid (w.heap.size ≤ w1.heap.size) := Lib.hid (HB.out.trans (hb.mono HB.out.size)).size
    have HB := Lib.hid (HB.out.trans ((hb.trans ((alloc_below _ (.cells #[.int .i64 2, .int .i64 n, .string ⟨#[]⟩] 24)).mono hb.size)).mono HB.out.size))
    have HL := Lib.hid ((HL.out.next hb).alloc (.cells #[.int .i64 2, .int .i64 n, .string ⟨#[]⟩] 24 (0, 0)))
    clear hb
    go_wp2_with fail
    go_at_call 27
    refine (DC.out _ _).mono ?_
    rintro e w2 ⟨rfl, hb⟩
    have HL := Lib.hid (HL.out.next hb)
    have hv := HL.out _ (List.mem_cons_self ..)
    obtain ⟨q0, q1, q2⟩ := box3 hv
    have z0 := frozen3 hv 0
    have z1 := frozen3 hv 1
    have z2 := frozen3 hv 2
    clear hv
    have HB := Lib.hid (below_setAlloc (set3_below0 (HB.out.trans (hb.mono HB.out.size)) HW.out (.int .i64 3) (.int .i64 n) (.string ⟨#[]⟩)) (.cells #[.int .i64 0, .int .i64 0, .string ⟨#[]⟩] 24))
    have HL := Lib.hid (Held.allocS (Held.cast (HL.out.set3 (fun _ h => absurd h (by simp)) 0 1 2 (.int .i64 3) (.int .i64 n) (.string ⟨#[]⟩)) (show _ = .cells #[.int .i64 3, .int .i64 n, .string ⟨#[]⟩] 24 (0, 0) from rfl)) (.cells #[.int .i64 0, .int .i64 0, .string ⟨#[]⟩] 24 (0, 0)))
    clear hb
    obtain ⟨v0, v1, v2⟩ := box3 (HL.out (w1.heap.size, .cells #[.int .i64 3, .int .i64 n, .string ⟨#[]⟩] 24 (0, 0)) (by simp))
    obtain ⟨n0, n1, n2⟩ := box3 (HL.out (w2.heap.size, .cells #[.int .i64 0, .int .i64 0, .string ⟨#[]⟩] 24 (0, 0)) (by simp))
    go_wp2_with fail
    go_at_call 28
    ((with_reducible refine (R1.out _).mono ?_); rintro e w3 ⟨rfl, hb⟩)
    have HB := Lib.hid (HB.out.trans ((hb.trans ((alloc_below _ (.cells #[.int .i64 0, .int .i64 0, .string ⟨#[]⟩] 24)).mono hb.size)).mono HB.out.size))
    have HL := Lib.hid ((HL.out.next hb).alloc (.cells #[.int .i64 0, .int .i64 0, .string ⟨#[]⟩] 24 (0, 0)))
    clear hb v0 v1 v2 n0 n1 n2
    obtain ⟨v0, v1, v2⟩ := box3 (HL.out (w1.heap.size, .cells #[.int .i64 3, .int .i64 n, .string ⟨#[]⟩] 24 (0, 0)) (by simp))
    obtain ⟨n0, n1, n2⟩ := box3 (HL.out (w2.heap.size, .cells #[.int .i64 0, .int .i64 0, .string ⟨#[]⟩] 24 (0, 0)) (by simp))
    go_wp2_with fail
    go_at_call 28
    ((with_reducible refine (R2.out _).mono ?_); rintro e w4 ⟨rfl, hb⟩)
    have HB := Lib.hid (HB.out.trans ((hb.trans ((alloc_below _ (.cells #[.int .i64 0, .int .i64 0, .string ⟨#[]⟩] 24)).mono hb.size)).mono HB.out.size))
    have HL := Lib.hid ((HL.out.next hb).alloc (.cells #[.int .i64 0, .int .i64 0, .string ⟨#[]⟩] 24 (0, 0)))
    clear hb v0 v1 v2 n0 n1 n2
    obtain ⟨v0, v1, v2⟩ := box3 (HL.out (w1.heap.size, .cells #[.int .i64 3, .int .i64 n, .string ⟨#[]⟩] 24 (0, 0)) (by simp))
    obtain ⟨n0, n1, n2⟩ := box3 (HL.out (w2.heap.size, .cells #[.int .i64 0, .int .i64 0, .string ⟨#[]⟩] 24 (0, 0)) (by simp))
    go_wp2_with fail
    go_at_call 21
    ((with_reducible refine (C1.out _).mono ?_); rintro e w5 ⟨N5, rfl, hb⟩)
    have HB := Lib.hid (HB.out.trans ((hb.trans ((alloc_below _ (.cells #[.int .i64 0, .int .i64 0, .string ⟨#[]⟩] 24)).mono hb.size)).mono HB.out.size))
    have HL := Lib.hid ((HL.out.next hb).alloc (.cells #[.int .i64 0, .int .i64 0, .string ⟨#[]⟩] 24 (0, 0)))
    clear hb v0 v1 v2 n0 n1 n2
    obtain ⟨v0, v1, v2⟩ := box3 (HL.out (w1.heap.size, .cells #[.int .i64 3, .int .i64 n, .string ⟨#[]⟩] 24 (0, 0)) (by simp))
    obtain ⟨n0, n1, n2⟩ := box3 (HL.out (w2.heap.size, .cells #[.int .i64 0, .int .i64 0, .string ⟨#[]⟩] 24 (0, 0)) (by simp))
    go_wp2_with fail
    go_at_call 21
    ((with_reducible refine (C2.out _).mono ?_); rintro e w6 ⟨N6, rfl, hb⟩)
    have HB := Lib.hid (HB.out.trans ((hb.trans ((alloc_below _ (.cells #[.int .i64 0, .int .i64 0, .string ⟨#[]⟩] 24)).mono hb.size)).mono HB.out.size))
    have HL := Lib.hid ((HL.out.next hb).alloc (.cells #[.int .i64 0, .int .i64 0, .string ⟨#[]⟩] 24 (0, 0)))
    clear hb v0 v1 v2 n0 n1 n2
    obtain ⟨v0, v1, v2⟩ := box3 (HL.out (w1.heap.size, .cells #[.int .i64 3, .int .i64 n, .string ⟨#[]⟩] 24 (0, 0)) (by simp))
    obtain ⟨n0, n1, n2⟩ := box3 (HL.out (w2.heap.size, .cells #[.int .i64 0, .int .i64 0, .string ⟨#[]⟩] 24 (0, 0)) (by simp))
    go_wp2_with fail
    go_at_call 20
    refine (AL.out _ (HG.out.below HB.out)).mono ?_
    rintro e w9 ⟨rfl, hb⟩
    have HB := Lib.hid (HB.out.trans (hb.mono HB.out.size))
    have HL := Lib.hid (HL.out.next hb)
    clear hb v0 v1 v2 n0 n1 n2
    obtain ⟨n0, n1, n2⟩ := box3 (HL.out (w2.heap.size, .cells #[.int .i64 0, .int .i64 0, .string ⟨#[]⟩] 24 (0, 0)) (by simp))
    obtain ⟨a0, a1, a2⟩ := box3 (HL.out (w3.heap.size, .cells #[.int .i64 0, .int .i64 0, .string ⟨#[]⟩] 24 (0, 0)) (by simp))
    obtain ⟨b0, b1, b2⟩ := box3 (HL.out (w4.heap.size, .cells #[.int .i64 0, .int .i64 0, .string ⟨#[]⟩] 24 (0, 0)) (by simp))
    obtain ⟨c0, c1, c2⟩ := box3 (HL.out (w5.heap.size, .cells #[.int .i64 0, .int .i64 0, .string ⟨#[]⟩] 24 (0, 0)) (by simp))
    obtain ⟨d0, d1, d2⟩ := box3 (HL.out (w6.heap.size, .cells #[.int .i64 0, .int .i64 0, .string ⟨#[]⟩] 24 (0, 0)) (by simp))
    go_wp2_with fail
    go_ret
    first | exact ⟨rfl, HB.out⟩ | exact ⟨ret_boolN (by simp; omega), HB.out⟩
set_option maxRecDepth 100000 in
set_option maxHeartbeats 8000000 in
theorem null_law_c (n op : Int) (d : Bool) (hn : i64ok n) (hop : op = 7) (w : World) (hg : Handle w) : Calls Tryd.prog 10 #[.int .i64 n, .bool d, .int .i64 op] w (Ans (.bool true) w) := by
  have HG := Lib.hid hg
  have WH := Lib.hid whole_any
  have DC := Lib.hid dec_any
  have AL := Lib.hid aliveN_any
  have HB := Lib.hid (Below.refl w.heap.size w)
  have HL := Lib.hid (Held.nil w)
  have f0 := eq00
  have o0 : i64ok 0 := by unfold i64ok; omega
  have h1 : (3 : Int) ≤ op := by omega
  have h2 : ¬ op ≤ 6 := by omega
  have h3 : ¬ (8 : Int) ≤ op := by omega
  cases d with
  | false =>
    have R1 := Lib.hid (((reckon_nul op 2 n 0 0 (.inl rfl) (.inr (.inr ⟨rfl, rfl⟩)) (.inr rfl) hn o0).1 (by omega)))
    have R2 := Lib.hid (((reckon_nul op 0 0 2 n (.inr (.inr ⟨rfl, rfl⟩)) (.inl rfl) (.inl rfl) o0 hn).1 (by omega)))
    have C1 := Lib.hid (((compare_nul op 2 n 0 0 (.inl rfl) (.inr (.inr ⟨rfl, rfl⟩)) (.inr rfl)).1 (by omega)))
    have C2 := Lib.hid (((compare_nul op 0 0 2 n (.inr (.inr ⟨rfl, rfl⟩)) (.inl rfl) (.inl rfl)).1 (by omega)))
    clear hg hn hop o0
    go_enter Tryd.func10, Tryd.ntmps10
    go_wp2_with fail
    go_at_call 26
    refine (WH.out _ _).mono ?_
    rintro e w1 ⟨rfl, hb⟩
    have HB := Lib.hid (HB.out.trans ((hb.trans ((alloc2_below _ (.cells #[.int .i64 2, .int .i64 n, .string ⟨#[]⟩] 24) (.cells #[.int .i64 0, .int .i64 0, .string ⟨#[]⟩] 24)).mono hb.size)).mono HB.out.size))
    have HL := Lib.hid ((HL.out.next hb).alloc2 (.cells #[.int .i64 2, .int .i64 n, .string ⟨#[]⟩] 24 (0, 0)) (.cells #[.int .i64 0, .int .i64 0, .string ⟨#[]⟩] 24 (0, 0)))
    clear hb
    obtain ⟨v0, v1, v2⟩ := box3 (HL.out (w1.heap.size, .cells #[.int .i64 2, .int .i64 n, .string ⟨#[]⟩] 24 (0, 0)) (by simp))
    obtain ⟨n0, n1, n2⟩ := box3 (HL.out (w1.heap.size + 1, .cells #[.int .i64 0, .int .i64 0, .string ⟨#[]⟩] 24 (0, 0)) (by simp))
    go_wp2_with fail
    go_at_call 28
    ((with_reducible refine (R1.out _).mono ?_); rintro e w3 ⟨N3, rfl, hb⟩)
    have HB := Lib.hid (HB.out.trans ((hb.trans ((alloc_below _ (.cells #[.int .i64 0, .int .i64 0, .string ⟨#[]⟩] 24)).mono hb.size)).mono HB.out.size))
    have HL := Lib.hid ((HL.out.next hb).alloc (.cells #[.int .i64 0, .int .i64 0, .string ⟨#[]⟩] 24 (0, 0)))
    clear hb v0 v1 v2 n0 n1 n2
    obtain ⟨v0, v1, v2⟩ := box3 (HL.out (w1.heap.size, .cells #[.int .i64 2, .int .i64 n, .string ⟨#[]⟩] 24 (0, 0)) (by simp))
    obtain ⟨n0, n1, n2⟩ := box3 (HL.out (w1.heap.size + 1, .cells #[.int .i64 0, .int .i64 0, .string ⟨#[]⟩] 24 (0, 0)) (by simp))
    go_wp2_with fail
    go_at_call 28
    ((with_reducible refine (R2.out _).mono ?_); rintro e w4 ⟨N4, rfl, hb⟩)
    have HB := Lib.hid (HB.out.trans ((hb.trans ((alloc_below _ (.cells #[.int .i64 0, .int .i64 0, .string ⟨#[]⟩] 24)).mono hb.size)).mono HB.out.size))
    have HL := Lib.hid ((HL.out.next hb).alloc (.cells #[.int .i64 0, .int .i64 0, .string ⟨#[]⟩] 24 (0, 0)))
    clear hb v0 v1 v2 n0 n1 n2
    obtain ⟨v0, v1, v2⟩ := box3 (HL.out (w1.heap.size, .cells #[.int .i64 2, .int .i64 n, .string ⟨#[]⟩] 24 (0, 0)) (by simp))
    obtain ⟨n0, n1, n2⟩ := box3 (HL.out (w1.heap.size + 1, .cells #[.int .i64 0, .int .i64 0, .string ⟨#[]⟩] 24 (0, 0)) (by simp))
    go_wp2_with fail
    go_at_call 21
    ((with_reducible refine (C1.out _).mono ?_); rintro e w5 ⟨N5, rfl, hb⟩)
    have HB := Lib.hid (HB.out.trans ((hb.trans ((alloc_below _ (.cells #[.int .i64 0, .int .i64 0, .string ⟨#[]⟩] 24)).mono hb.size)).mono HB.out.size))
    have HL := Lib.hid ((HL.out.next hb).alloc (.cells #[.int .i64 0, .int .i64 0, .string ⟨#[]⟩] 24 (0, 0)))
    clear hb v0 v1 v2 n0 n1 n2
    obtain ⟨v0, v1, v2⟩ := box3 (HL.out (w1.heap.size, .cells #[.int .i64 2, .int .i64 n, .string ⟨#[]⟩] 24 (0, 0)) (by simp))
    obtain ⟨n0, n1, n2⟩ := box3 (HL.out (w1.heap.size + 1, .cells #[.int .i64 0, .int .i64 0, .string ⟨#[]⟩] 24 (0, 0)) (by simp))
    go_wp2_with fail
    go_at_call 21
    ((with_reducible refine (C2.out _).mono ?_); rintro e w6 ⟨N6, rfl, hb⟩)
    have HB := Lib.hid (HB.out.trans ((hb.trans ((alloc_below _ (.cells #[.int .i64 0, .int .i64 0, .string ⟨#[]⟩] 24)).mono hb.size)).mono HB.out.size))
    have HL := Lib.hid ((HL.out.next hb).alloc (.cells #[.int .i64 0, .int .i64 0, .string ⟨#[]⟩] 24 (0, 0)))
    clear hb v0 v1 v2 n0 n1 n2
    obtain ⟨v0, v1, v2⟩ := box3 (HL.out (w1.heap.size, .cells #[.int .i64 2, .int .i64 n, .string ⟨#[]⟩] 24 (0, 0)) (by simp))
    obtain ⟨n0, n1, n2⟩ := box3 (HL.out (w1.heap.size + 1, .cells #[.int .i64 0, .int .i64 0, .string ⟨#[]⟩] 24 (0, 0)) (by simp))
    go_wp2_with fail
    go_at_call 20
    refine (AL.out _ (HG.out.below HB.out)).mono ?_
    rintro e w9 ⟨rfl, hb⟩
    have HB := Lib.hid (HB.out.trans (hb.mono HB.out.size))
    have HL := Lib.hid (HL.out.next hb)
    clear hb v0 v1 v2 n0 n1 n2
    obtain ⟨n0, n1, n2⟩ := box3 (HL.out (w1.heap.size + 1, .cells #[.int .i64 0, .int .i64 0, .string ⟨#[]⟩] 24 (0, 0)) (by simp))
    obtain ⟨a0, a1, a2⟩ := box3 (HL.out (w3.heap.size, .cells #[.int .i64 0, .int .i64 0, .string ⟨#[]⟩] 24 (0, 0)) (by simp))
    obtain ⟨b0, b1, b2⟩ := box3 (HL.out (w4.heap.size, .cells #[.int .i64 0, .int .i64 0, .string ⟨#[]⟩] 24 (0, 0)) (by simp))
    obtain ⟨c0, c1, c2⟩ := box3 (HL.out (w5.heap.size, .cells #[.int .i64 0, .int .i64 0, .string ⟨#[]⟩] 24 (0, 0)) (by simp))
    obtain ⟨d0, d1, d2⟩ := box3 (HL.out (w6.heap.size, .cells #[.int .i64 0, .int .i64 0, .string ⟨#[]⟩] 24 (0, 0)) (by simp))
    go_wp2_with fail
    go_ret
    first | exact ⟨rfl, HB.out⟩ | exact ⟨ret_boolN (by simp; omega), HB.out⟩
  | true =>
    have R1 := Lib.hid (((reckon_nul op 3 n 0 0 (.inr (.inl rfl)) (.inr (.inr ⟨rfl, rfl⟩)) (.inr rfl) hn o0).1 (by omega)))
    have R2 := Lib.hid (((reckon_nul op 0 0 3 n (.inr (.inr ⟨rfl, rfl⟩)) (.inr (.inl rfl)) (.inl rfl) o0 hn).1 (by omega)))
    have C1 := Lib.hid (((compare_nul op 3 n 0 0 (.inr (.inl rfl)) (.inr (.inr ⟨rfl, rfl⟩)) (.inr rfl)).1 (by omega)))
    have C2 := Lib.hid (((compare_nul op 0 0 3 n (.inr (.inr ⟨rfl, rfl⟩)) (.inr (.inl rfl)) (.inl rfl)).1 (by omega)))
    clear hg hn hop o0
    go_enter Tryd.func10, Tryd.ntmps10
    go_wp2_with fail
    go_at_call 26
    refine (WH.out _ _).mono ?_
    rintro e w1 ⟨rfl, hb⟩
    have HW : Hid (w.heap.size ≤ w1.heap.size) := Lib.hid (HB.out.trans (hb.mono HB.out.size)).size
    have HB := Lib.hid (HB.out.trans ((hb.trans ((alloc_below _ (.cells #[.int .i64 2, .int .i64 n, .string ⟨#[]⟩] 24)).mono hb.size)).mono HB.out.size))
    have HL := Lib.hid ((HL.out.next hb).alloc (.cells #[.int .i64 2, .int .i64 n, .string ⟨#[]⟩] 24 (0, 0)))
    clear hb
    go_wp2_with fail
    go_at_call 27
    refine (DC.out _ _).mono ?_
    rintro e w2 ⟨rfl, hb⟩
    have HL := Lib.hid (HL.out.next hb)
    have hv := HL.out _ (List.mem_cons_self ..)
    obtain ⟨q0, q1, q2⟩ := box3 hv
    have z0 := frozen3 hv 0
    have z1 := frozen3 hv 1
    have z2 := frozen3 hv 2
    clear hv
    have HB := Lib.hid (below_setAlloc (set3_below0 (HB.out.trans (hb.mono HB.out.size)) HW.out (.int .i64 3) (.int .i64 n) (.string ⟨#[]⟩)) (.cells #[.int .i64 0, .int .i64 0, .string ⟨#[]⟩] 24))
    have HL := Lib.hid (Held.allocS (Held.cast (HL.out.set3 (fun _ h => absurd h (by simp)) 0 1 2 (.int .i64 3) (.int .i64 n) (.string ⟨#[]⟩)) (show _ = .cells #[.int .i64 3, .int .i64 n, .string ⟨#[]⟩] 24 (0, 0) from rfl)) (.cells #[.int .i64 0, .int .i64 0, .string ⟨#[]⟩] 24 (0, 0)))
    clear hb
    obtain ⟨v0, v1, v2⟩ := box3 (HL.out (w1.heap.size, .cells #[.int .i64 3, .int .i64 n, .string ⟨#[]⟩] 24 (0, 0)) (by simp))
    obtain ⟨n0, n1, n2⟩ := box3 (HL.out (w2.heap.size, .cells #[.int .i64 0, .int .i64 0, .string ⟨#[]⟩] 24 (0, 0)) (by simp))
    go_wp2_with fail
    go_at_call 28
    ((with_reducible refine (R1.out _).mono ?_); rintro e w3 ⟨N3, rfl, hb⟩)
    have HB := Lib.hid (HB.out.trans ((hb.trans ((alloc_below _ (.cells #[.int .i64 0, .int .i64 0, .string ⟨#[]⟩] 24)).mono hb.size)).mono HB.out.size))
    have HL := Lib.hid ((HL.out.next hb).alloc (.cells #[.int .i64 0, .int .i64 0, .string ⟨#[]⟩] 24 (0, 0)))
    clear hb v0 v1 v2 n0 n1 n2
    obtain ⟨v0, v1, v2⟩ := box3 (HL.out (w1.heap.size, .cells #[.int .i64 3, .int .i64 n, .string ⟨#[]⟩] 24 (0, 0)) (by simp))
    obtain ⟨n0, n1, n2⟩ := box3 (HL.out (w2.heap.size, .cells #[.int .i64 0, .int .i64 0, .string ⟨#[]⟩] 24 (0, 0)) (by simp))
    go_wp2_with fail
    go_at_call 28
    ((with_reducible refine (R2.out _).mono ?_); rintro e w4 ⟨N4, rfl, hb⟩)
    have HB := Lib.hid (HB.out.trans ((hb.trans ((alloc_below _ (.cells #[.int .i64 0, .int .i64 0, .string ⟨#[]⟩] 24)).mono hb.size)).mono HB.out.size))
    have HL := Lib.hid ((HL.out.next hb).alloc (.cells #[.int .i64 0, .int .i64 0, .string ⟨#[]⟩] 24 (0, 0)))
    clear hb v0 v1 v2 n0 n1 n2
    obtain ⟨v0, v1, v2⟩ := box3 (HL.out (w1.heap.size, .cells #[.int .i64 3, .int .i64 n, .string ⟨#[]⟩] 24 (0, 0)) (by simp))
    obtain ⟨n0, n1, n2⟩ := box3 (HL.out (w2.heap.size, .cells #[.int .i64 0, .int .i64 0, .string ⟨#[]⟩] 24 (0, 0)) (by simp))
    go_wp2_with fail
    go_at_call 21
    ((with_reducible refine (C1.out _).mono ?_); rintro e w5 ⟨N5, rfl, hb⟩)
    have HB := Lib.hid (HB.out.trans ((hb.trans ((alloc_below _ (.cells #[.int .i64 0, .int .i64 0, .string ⟨#[]⟩] 24)).mono hb.size)).mono HB.out.size))
    have HL := Lib.hid ((HL.out.next hb).alloc (.cells #[.int .i64 0, .int .i64 0, .string ⟨#[]⟩] 24 (0, 0)))
    clear hb v0 v1 v2 n0 n1 n2
    obtain ⟨v0, v1, v2⟩ := box3 (HL.out (w1.heap.size, .cells #[.int .i64 3, .int .i64 n, .string ⟨#[]⟩] 24 (0, 0)) (by simp))
    obtain ⟨n0, n1, n2⟩ := box3 (HL.out (w2.heap.size, .cells #[.int .i64 0, .int .i64 0, .string ⟨#[]⟩] 24 (0, 0)) (by simp))
    go_wp2_with fail
    go_at_call 21
    ((with_reducible refine (C2.out _).mono ?_); rintro e w6 ⟨N6, rfl, hb⟩)
    have HB := Lib.hid (HB.out.trans ((hb.trans ((alloc_below _ (.cells #[.int .i64 0, .int .i64 0, .string ⟨#[]⟩] 24)).mono hb.size)).mono HB.out.size))
    have HL := Lib.hid ((HL.out.next hb).alloc (.cells #[.int .i64 0, .int .i64 0, .string ⟨#[]⟩] 24 (0, 0)))
    clear hb v0 v1 v2 n0 n1 n2
    obtain ⟨v0, v1, v2⟩ := box3 (HL.out (w1.heap.size, .cells #[.int .i64 3, .int .i64 n, .string ⟨#[]⟩] 24 (0, 0)) (by simp))
    obtain ⟨n0, n1, n2⟩ := box3 (HL.out (w2.heap.size, .cells #[.int .i64 0, .int .i64 0, .string ⟨#[]⟩] 24 (0, 0)) (by simp))
    go_wp2_with fail
    go_at_call 20
    refine (AL.out _ (HG.out.below HB.out)).mono ?_
    rintro e w9 ⟨rfl, hb⟩
    have HB := Lib.hid (HB.out.trans (hb.mono HB.out.size))
    have HL := Lib.hid (HL.out.next hb)
    clear hb v0 v1 v2 n0 n1 n2
    obtain ⟨n0, n1, n2⟩ := box3 (HL.out (w2.heap.size, .cells #[.int .i64 0, .int .i64 0, .string ⟨#[]⟩] 24 (0, 0)) (by simp))
    obtain ⟨a0, a1, a2⟩ := box3 (HL.out (w3.heap.size, .cells #[.int .i64 0, .int .i64 0, .string ⟨#[]⟩] 24 (0, 0)) (by simp))
    obtain ⟨b0, b1, b2⟩ := box3 (HL.out (w4.heap.size, .cells #[.int .i64 0, .int .i64 0, .string ⟨#[]⟩] 24 (0, 0)) (by simp))
    obtain ⟨c0, c1, c2⟩ := box3 (HL.out (w5.heap.size, .cells #[.int .i64 0, .int .i64 0, .string ⟨#[]⟩] 24 (0, 0)) (by simp))
    obtain ⟨d0, d1, d2⟩ := box3 (HL.out (w6.heap.size, .cells #[.int .i64 0, .int .i64 0, .string ⟨#[]⟩] 24 (0, 0)) (by simp))
    go_wp2_with fail
    go_ret
    first | exact ⟨rfl, HB.out⟩ | exact ⟨ret_boolN (by simp; omega), HB.out⟩
set_option maxRecDepth 100000 in
set_option maxHeartbeats 8000000 in
theorem null_law_d (n op : Int) (d : Bool) (hn : i64ok n) (hop : 8 ≤ op ∧ op ≤ 13) (w : World) (hg : Handle w) : Calls Tryd.prog 10 #[.int .i64 n, .bool d, .int .i64 op] w (Ans (.bool true) w) := by
  have HG := Lib.hid hg
  have WH := Lib.hid whole_any
  have DC := Lib.hid dec_any
  have AL := Lib.hid aliveN_any
  have HB := Lib.hid (Below.refl w.heap.size w)
  have HL := Lib.hid (Held.nil w)
  have f0 := eq00
  have o0 : i64ok 0 := by unfold i64ok; omega
  have h1 : (3 : Int) ≤ op := by omega
  have h2 : ¬ op ≤ 6 := by omega
  have h3 : (8 : Int) ≤ op := by omega
  have h4 : op ≤ 13 := by omega
  cases d with
  | false =>
    have R1 := Lib.hid (((reckon_nul op 2 n 0 0 (.inl rfl) (.inr (.inr ⟨rfl, rfl⟩)) (.inr rfl) hn o0).1 (by omega)))
    have R2 := Lib.hid (((reckon_nul op 0 0 2 n (.inr (.inr ⟨rfl, rfl⟩)) (.inl rfl) (.inl rfl) o0 hn).1 (by omega)))
    have C1 := Lib.hid (((compare_nul op 2 n 0 0 (.inl rfl) (.inr (.inr ⟨rfl, rfl⟩)) (.inr rfl)).2 (by omega)))
    have C2 := Lib.hid (((compare_nul op 0 0 2 n (.inr (.inr ⟨rfl, rfl⟩)) (.inl rfl) (.inl rfl)).2 (by omega)))
    clear hg hn hop o0
    go_enter Tryd.func10, Tryd.ntmps10
    go_wp2_with fail
    go_at_call 26
    refine (WH.out _ _).mono ?_
    rintro e w1 ⟨rfl, hb⟩
    have HB := Lib.hid (HB.out.trans ((hb.trans ((alloc2_below _ (.cells #[.int .i64 2, .int .i64 n, .string ⟨#[]⟩] 24) (.cells #[.int .i64 0, .int .i64 0, .string ⟨#[]⟩] 24)).mono hb.size)).mono HB.out.size))
    have HL := Lib.hid ((HL.out.next hb).alloc2 (.cells #[.int .i64 2, .int .i64 n, .string ⟨#[]⟩] 24 (0, 0)) (.cells #[.int .i64 0, .int .i64 0, .string ⟨#[]⟩] 24 (0, 0)))
    clear hb
    obtain ⟨v0, v1, v2⟩ := box3 (HL.out (w1.heap.size, .cells #[.int .i64 2, .int .i64 n, .string ⟨#[]⟩] 24 (0, 0)) (by simp))
    obtain ⟨n0, n1, n2⟩ := box3 (HL.out (w1.heap.size + 1, .cells #[.int .i64 0, .int .i64 0, .string ⟨#[]⟩] 24 (0, 0)) (by simp))
    go_wp2_with fail
    go_at_call 28
    ((with_reducible refine (R1.out _).mono ?_); rintro e w3 ⟨N3, rfl, hb⟩)
    have HB := Lib.hid (HB.out.trans ((hb.trans ((alloc_below _ (.cells #[.int .i64 0, .int .i64 0, .string ⟨#[]⟩] 24)).mono hb.size)).mono HB.out.size))
    have HL := Lib.hid ((HL.out.next hb).alloc (.cells #[.int .i64 0, .int .i64 0, .string ⟨#[]⟩] 24 (0, 0)))
    clear hb v0 v1 v2 n0 n1 n2
    obtain ⟨v0, v1, v2⟩ := box3 (HL.out (w1.heap.size, .cells #[.int .i64 2, .int .i64 n, .string ⟨#[]⟩] 24 (0, 0)) (by simp))
    obtain ⟨n0, n1, n2⟩ := box3 (HL.out (w1.heap.size + 1, .cells #[.int .i64 0, .int .i64 0, .string ⟨#[]⟩] 24 (0, 0)) (by simp))
    go_wp2_with fail
    go_at_call 28
    ((with_reducible refine (R2.out _).mono ?_); rintro e w4 ⟨N4, rfl, hb⟩)
    have HB := Lib.hid (HB.out.trans ((hb.trans ((alloc_below _ (.cells #[.int .i64 0, .int .i64 0, .string ⟨#[]⟩] 24)).mono hb.size)).mono HB.out.size))
    have HL := Lib.hid ((HL.out.next hb).alloc (.cells #[.int .i64 0, .int .i64 0, .string ⟨#[]⟩] 24 (0, 0)))
    clear hb v0 v1 v2 n0 n1 n2
    obtain ⟨v0, v1, v2⟩ := box3 (HL.out (w1.heap.size, .cells #[.int .i64 2, .int .i64 n, .string ⟨#[]⟩] 24 (0, 0)) (by simp))
    obtain ⟨n0, n1, n2⟩ := box3 (HL.out (w1.heap.size + 1, .cells #[.int .i64 0, .int .i64 0, .string ⟨#[]⟩] 24 (0, 0)) (by simp))
    go_wp2_with fail
    go_at_call 21
    ((with_reducible refine (C1.out _).mono ?_); rintro e w5 ⟨rfl, hb⟩)
    have HB := Lib.hid (HB.out.trans ((hb.trans ((alloc_below _ (.cells #[.int .i64 0, .int .i64 0, .string ⟨#[]⟩] 24)).mono hb.size)).mono HB.out.size))
    have HL := Lib.hid ((HL.out.next hb).alloc (.cells #[.int .i64 0, .int .i64 0, .string ⟨#[]⟩] 24 (0, 0)))
    clear hb v0 v1 v2 n0 n1 n2
    obtain ⟨v0, v1, v2⟩ := box3 (HL.out (w1.heap.size, .cells #[.int .i64 2, .int .i64 n, .string ⟨#[]⟩] 24 (0, 0)) (by simp))
    obtain ⟨n0, n1, n2⟩ := box3 (HL.out (w1.heap.size + 1, .cells #[.int .i64 0, .int .i64 0, .string ⟨#[]⟩] 24 (0, 0)) (by simp))
    go_wp2_with fail
    go_at_call 21
    ((with_reducible refine (C2.out _).mono ?_); rintro e w6 ⟨rfl, hb⟩)
    have HB := Lib.hid (HB.out.trans ((hb.trans ((alloc_below _ (.cells #[.int .i64 0, .int .i64 0, .string ⟨#[]⟩] 24)).mono hb.size)).mono HB.out.size))
    have HL := Lib.hid ((HL.out.next hb).alloc (.cells #[.int .i64 0, .int .i64 0, .string ⟨#[]⟩] 24 (0, 0)))
    clear hb v0 v1 v2 n0 n1 n2
    obtain ⟨v0, v1, v2⟩ := box3 (HL.out (w1.heap.size, .cells #[.int .i64 2, .int .i64 n, .string ⟨#[]⟩] 24 (0, 0)) (by simp))
    obtain ⟨n0, n1, n2⟩ := box3 (HL.out (w1.heap.size + 1, .cells #[.int .i64 0, .int .i64 0, .string ⟨#[]⟩] 24 (0, 0)) (by simp))
    go_wp2_with fail
    go_at_call 20
    refine (AL.out _ (HG.out.below HB.out)).mono ?_
    rintro e w9 ⟨rfl, hb⟩
    have HB := Lib.hid (HB.out.trans (hb.mono HB.out.size))
    have HL := Lib.hid (HL.out.next hb)
    clear hb v0 v1 v2 n0 n1 n2
    obtain ⟨n0, n1, n2⟩ := box3 (HL.out (w1.heap.size + 1, .cells #[.int .i64 0, .int .i64 0, .string ⟨#[]⟩] 24 (0, 0)) (by simp))
    obtain ⟨a0, a1, a2⟩ := box3 (HL.out (w3.heap.size, .cells #[.int .i64 0, .int .i64 0, .string ⟨#[]⟩] 24 (0, 0)) (by simp))
    obtain ⟨b0, b1, b2⟩ := box3 (HL.out (w4.heap.size, .cells #[.int .i64 0, .int .i64 0, .string ⟨#[]⟩] 24 (0, 0)) (by simp))
    obtain ⟨c0, c1, c2⟩ := box3 (HL.out (w5.heap.size, .cells #[.int .i64 0, .int .i64 0, .string ⟨#[]⟩] 24 (0, 0)) (by simp))
    obtain ⟨d0, d1, d2⟩ := box3 (HL.out (w6.heap.size, .cells #[.int .i64 0, .int .i64 0, .string ⟨#[]⟩] 24 (0, 0)) (by simp))
    go_wp2_with fail
    go_ret
    first | exact ⟨rfl, HB.out⟩ | exact ⟨ret_boolN (by simp; omega), HB.out⟩
  | true =>
    have R1 := Lib.hid (((reckon_nul op 3 n 0 0 (.inr (.inl rfl)) (.inr (.inr ⟨rfl, rfl⟩)) (.inr rfl) hn o0).1 (by omega)))
    have R2 := Lib.hid (((reckon_nul op 0 0 3 n (.inr (.inr ⟨rfl, rfl⟩)) (.inr (.inl rfl)) (.inl rfl) o0 hn).1 (by omega)))
    have C1 := Lib.hid (((compare_nul op 3 n 0 0 (.inr (.inl rfl)) (.inr (.inr ⟨rfl, rfl⟩)) (.inr rfl)).2 (by omega)))
    have C2 := Lib.hid (((compare_nul op 0 0 3 n (.inr (.inr ⟨rfl, rfl⟩)) (.inr (.inl rfl)) (.inl rfl)).2 (by omega)))
    clear hg hn hop o0
    go_enter Tryd.func10, Tryd.ntmps10
    go_wp2_with fail
    go_at_call 26
    refine (WH.out _ _).mono ?_
    rintro e w1 ⟨rfl, hb⟩
    have HW : Hid (w.heap.size ≤ w1.heap.size) := Lib.hid (HB.out.trans (hb.mono HB.out.size)).size
    have HB := Lib.hid (HB.out.trans ((hb.trans ((alloc_below _ (.cells #[.int .i64 2, .int .i64 n, .string ⟨#[]⟩] 24)).mono hb.size)).mono HB.out.size))
    have HL := Lib.hid ((HL.out.next hb).alloc (.cells #[.int .i64 2, .int .i64 n, .string ⟨#[]⟩] 24 (0, 0)))
    clear hb
    go_wp2_with fail
    go_at_call 27
    refine (DC.out _ _).mono ?_
    rintro e w2 ⟨rfl, hb⟩
    have HL := Lib.hid (HL.out.next hb)
    have hv := HL.out _ (List.mem_cons_self ..)
    obtain ⟨q0, q1, q2⟩ := box3 hv
    have z0 := frozen3 hv 0
    have z1 := frozen3 hv 1
    have z2 := frozen3 hv 2
    clear hv
    have HB := Lib.hid (below_setAlloc (set3_below0 (HB.out.trans (hb.mono HB.out.size)) HW.out (.int .i64 3) (.int .i64 n) (.string ⟨#[]⟩)) (.cells #[.int .i64 0, .int .i64 0, .string ⟨#[]⟩] 24))
    have HL := Lib.hid (Held.allocS (Held.cast (HL.out.set3 (fun _ h => absurd h (by simp)) 0 1 2 (.int .i64 3) (.int .i64 n) (.string ⟨#[]⟩)) (show _ = .cells #[.int .i64 3, .int .i64 n, .string ⟨#[]⟩] 24 (0, 0) from rfl)) (.cells #[.int .i64 0, .int .i64 0, .string ⟨#[]⟩] 24 (0, 0)))
    clear hb
    obtain ⟨v0, v1, v2⟩ := box3 (HL.out (w1.heap.size, .cells #[.int .i64 3, .int .i64 n, .string ⟨#[]⟩] 24 (0, 0)) (by simp))
    obtain ⟨n0, n1, n2⟩ := box3 (HL.out (w2.heap.size, .cells #[.int .i64 0, .int .i64 0, .string ⟨#[]⟩] 24 (0, 0)) (by simp))
    go_wp2_with fail
    go_at_call 28
    ((with_reducible refine (R1.out _).mono ?_); rintro e w3 ⟨N3, rfl, hb⟩)
    have HB := Lib.hid (HB.out.trans ((hb.trans ((alloc_below _ (.cells #[.int .i64 0, .int .i64 0, .string ⟨#[]⟩] 24)).mono hb.size)).mono HB.out.size))
    have HL := Lib.hid ((HL.out.next hb).alloc (.cells #[.int .i64 0, .int .i64 0, .string ⟨#[]⟩] 24 (0, 0)))
    clear hb v0 v1 v2 n0 n1 n2
    obtain ⟨v0, v1, v2⟩ := box3 (HL.out (w1.heap.size, .cells #[.int .i64 3, .int .i64 n, .string ⟨#[]⟩] 24 (0, 0)) (by simp))
    obtain ⟨n0, n1, n2⟩ := box3 (HL.out (w2.heap.size, .cells #[.int .i64 0, .int .i64 0, .string ⟨#[]⟩] 24 (0, 0)) (by simp))
    go_wp2_with fail
    go_at_call 28
    ((with_reducible refine (R2.out _).mono ?_); rintro e w4 ⟨N4, rfl, hb⟩)
    have HB := Lib.hid (HB.out.trans ((hb.trans ((alloc_below _ (.cells #[.int .i64 0, .int .i64 0, .string ⟨#[]⟩] 24)).mono hb.size)).mono HB.out.size))
    have HL := Lib.hid ((HL.out.next hb).alloc (.cells #[.int .i64 0, .int .i64 0, .string ⟨#[]⟩] 24 (0, 0)))
    clear hb v0 v1 v2 n0 n1 n2
    obtain ⟨v0, v1, v2⟩ := box3 (HL.out (w1.heap.size, .cells #[.int .i64 3, .int .i64 n, .string ⟨#[]⟩] 24 (0, 0)) (by simp))
    obtain ⟨n0, n1, n2⟩ := box3 (HL.out (w2.heap.size, .cells #[.int .i64 0, .int .i64 0, .string ⟨#[]⟩] 24 (0, 0)) (by simp))
    go_wp2_with fail
    go_at_call 21
    ((with_reducible refine (C1.out _).mono ?_); rintro e w5 ⟨rfl, hb⟩)
    have HB := Lib.hid (HB.out.trans ((hb.trans ((alloc_below _ (.cells #[.int .i64 0, .int .i64 0, .string ⟨#[]⟩] 24)).mono hb.size)).mono HB.out.size))
    have HL := Lib.hid ((HL.out.next hb).alloc (.cells #[.int .i64 0, .int .i64 0, .string ⟨#[]⟩] 24 (0, 0)))
    clear hb v0 v1 v2 n0 n1 n2
    obtain ⟨v0, v1, v2⟩ := box3 (HL.out (w1.heap.size, .cells #[.int .i64 3, .int .i64 n, .string ⟨#[]⟩] 24 (0, 0)) (by simp))
    obtain ⟨n0, n1, n2⟩ := box3 (HL.out (w2.heap.size, .cells #[.int .i64 0, .int .i64 0, .string ⟨#[]⟩] 24 (0, 0)) (by simp))
    go_wp2_with fail
    go_at_call 21
    ((with_reducible refine (C2.out _).mono ?_); rintro e w6 ⟨rfl, hb⟩)
    have HB := Lib.hid (HB.out.trans ((hb.trans ((alloc_below _ (.cells #[.int .i64 0, .int .i64 0, .string ⟨#[]⟩] 24)).mono hb.size)).mono HB.out.size))
    have HL := Lib.hid ((HL.out.next hb).alloc (.cells #[.int .i64 0, .int .i64 0, .string ⟨#[]⟩] 24 (0, 0)))
    clear hb v0 v1 v2 n0 n1 n2
    obtain ⟨v0, v1, v2⟩ := box3 (HL.out (w1.heap.size, .cells #[.int .i64 3, .int .i64 n, .string ⟨#[]⟩] 24 (0, 0)) (by simp))
    obtain ⟨n0, n1, n2⟩ := box3 (HL.out (w2.heap.size, .cells #[.int .i64 0, .int .i64 0, .string ⟨#[]⟩] 24 (0, 0)) (by simp))
    go_wp2_with fail
    go_at_call 20
    refine (AL.out _ (HG.out.below HB.out)).mono ?_
    rintro e w9 ⟨rfl, hb⟩
    have HB := Lib.hid (HB.out.trans (hb.mono HB.out.size))
    have HL := Lib.hid (HL.out.next hb)
    clear hb v0 v1 v2 n0 n1 n2
    obtain ⟨n0, n1, n2⟩ := box3 (HL.out (w2.heap.size, .cells #[.int .i64 0, .int .i64 0, .string ⟨#[]⟩] 24 (0, 0)) (by simp))
    obtain ⟨a0, a1, a2⟩ := box3 (HL.out (w3.heap.size, .cells #[.int .i64 0, .int .i64 0, .string ⟨#[]⟩] 24 (0, 0)) (by simp))
    obtain ⟨b0, b1, b2⟩ := box3 (HL.out (w4.heap.size, .cells #[.int .i64 0, .int .i64 0, .string ⟨#[]⟩] 24 (0, 0)) (by simp))
    obtain ⟨c0, c1, c2⟩ := box3 (HL.out (w5.heap.size, .cells #[.int .i64 0, .int .i64 0, .string ⟨#[]⟩] 24 (0, 0)) (by simp))
    obtain ⟨d0, d1, d2⟩ := box3 (HL.out (w6.heap.size, .cells #[.int .i64 0, .int .i64 0, .string ⟨#[]⟩] 24 (0, 0)) (by simp))
    go_wp2_with fail
    go_ret
    first | exact ⟨rfl, HB.out⟩ | exact ⟨ret_boolN (by simp; omega), HB.out⟩
set_option maxRecDepth 100000 in
set_option maxHeartbeats 8000000 in
theorem null_law_e (n op : Int) (d : Bool) (hn : i64ok n) (hop : 13 < op) (w : World) (hg : Handle w) : Calls Tryd.prog 10 #[.int .i64 n, .bool d, .int .i64 op] w (Ans (.bool true) w) := by
  have HG := Lib.hid hg
  have WH := Lib.hid whole_any
  have DC := Lib.hid dec_any
  have AL := Lib.hid aliveN_any
  have HB := Lib.hid (Below.refl w.heap.size w)
  have HL := Lib.hid (Held.nil w)
  have f0 := eq00
  have o0 : i64ok 0 := by unfold i64ok; omega
  have h1 : (3 : Int) ≤ op := by omega
  have h2 : ¬ op ≤ 6 := by omega
  have h3 : (8 : Int) ≤ op := by omega
  have h4 : ¬ op ≤ 13 := by omega
  cases d with
  | false =>
    have R1 := Lib.hid (((reckon_nul op 2 n 0 0 (.inl rfl) (.inr (.inr ⟨rfl, rfl⟩)) (.inr rfl) hn o0).1 (by omega)))
    have R2 := Lib.hid (((reckon_nul op 0 0 2 n (.inr (.inr ⟨rfl, rfl⟩)) (.inl rfl) (.inl rfl) o0 hn).1 (by omega)))
    have C1 := Lib.hid (((compare_nul op 2 n 0 0 (.inl rfl) (.inr (.inr ⟨rfl, rfl⟩)) (.inr rfl)).1 (by omega)))
    have C2 := Lib.hid (((compare_nul op 0 0 2 n (.inr (.inr ⟨rfl, rfl⟩)) (.inl rfl) (.inl rfl)).1 (by omega)))
    clear hg hn hop o0
    go_enter Tryd.func10, Tryd.ntmps10
    go_wp2_with fail
    go_at_call 26
    refine (WH.out _ _).mono ?_
    rintro e w1 ⟨rfl, hb⟩
    have HB := Lib.hid (HB.out.trans ((hb.trans ((alloc2_below _ (.cells #[.int .i64 2, .int .i64 n, .string ⟨#[]⟩] 24) (.cells #[.int .i64 0, .int .i64 0, .string ⟨#[]⟩] 24)).mono hb.size)).mono HB.out.size))
    have HL := Lib.hid ((HL.out.next hb).alloc2 (.cells #[.int .i64 2, .int .i64 n, .string ⟨#[]⟩] 24 (0, 0)) (.cells #[.int .i64 0, .int .i64 0, .string ⟨#[]⟩] 24 (0, 0)))
    clear hb
    obtain ⟨v0, v1, v2⟩ := box3 (HL.out (w1.heap.size, .cells #[.int .i64 2, .int .i64 n, .string ⟨#[]⟩] 24 (0, 0)) (by simp))
    obtain ⟨n0, n1, n2⟩ := box3 (HL.out (w1.heap.size + 1, .cells #[.int .i64 0, .int .i64 0, .string ⟨#[]⟩] 24 (0, 0)) (by simp))
    go_wp2_with fail
    go_at_call 28
    ((with_reducible refine (R1.out _).mono ?_); rintro e w3 ⟨N3, rfl, hb⟩)
    have HB := Lib.hid (HB.out.trans ((hb.trans ((alloc_below _ (.cells #[.int .i64 0, .int .i64 0, .string ⟨#[]⟩] 24)).mono hb.size)).mono HB.out.size))
    have HL := Lib.hid ((HL.out.next hb).alloc (.cells #[.int .i64 0, .int .i64 0, .string ⟨#[]⟩] 24 (0, 0)))
    clear hb v0 v1 v2 n0 n1 n2
    obtain ⟨v0, v1, v2⟩ := box3 (HL.out (w1.heap.size, .cells #[.int .i64 2, .int .i64 n, .string ⟨#[]⟩] 24 (0, 0)) (by simp))
    obtain ⟨n0, n1, n2⟩ := box3 (HL.out (w1.heap.size + 1, .cells #[.int .i64 0, .int .i64 0, .string ⟨#[]⟩] 24 (0, 0)) (by simp))
    go_wp2_with fail
    go_at_call 28
    ((with_reducible refine (R2.out _).mono ?_); rintro e w4 ⟨N4, rfl, hb⟩)
    have HB := Lib.hid (HB.out.trans ((hb.trans ((alloc_below _ (.cells #[.int .i64 0, .int .i64 0, .string ⟨#[]⟩] 24)).mono hb.size)).mono HB.out.size))
    have HL := Lib.hid ((HL.out.next hb).alloc (.cells #[.int .i64 0, .int .i64 0, .string ⟨#[]⟩] 24 (0, 0)))
    clear hb v0 v1 v2 n0 n1 n2
    obtain ⟨v0, v1, v2⟩ := box3 (HL.out (w1.heap.size, .cells #[.int .i64 2, .int .i64 n, .string ⟨#[]⟩] 24 (0, 0)) (by simp))
    obtain ⟨n0, n1, n2⟩ := box3 (HL.out (w1.heap.size + 1, .cells #[.int .i64 0, .int .i64 0, .string ⟨#[]⟩] 24 (0, 0)) (by simp))
    go_wp2_with fail
    go_at_call 21
    ((with_reducible refine (C1.out _).mono ?_); rintro e w5 ⟨N5, rfl, hb⟩)
    have HB := Lib.hid (HB.out.trans ((hb.trans ((alloc_below _ (.cells #[.int .i64 0, .int .i64 0, .string ⟨#[]⟩] 24)).mono hb.size)).mono HB.out.size))
    have HL := Lib.hid ((HL.out.next hb).alloc (.cells #[.int .i64 0, .int .i64 0, .string ⟨#[]⟩] 24 (0, 0)))
    clear hb v0 v1 v2 n0 n1 n2
    obtain ⟨v0, v1, v2⟩ := box3 (HL.out (w1.heap.size, .cells #[.int .i64 2, .int .i64 n, .string ⟨#[]⟩] 24 (0, 0)) (by simp))
    obtain ⟨n0, n1, n2⟩ := box3 (HL.out (w1.heap.size + 1, .cells #[.int .i64 0, .int .i64 0, .string ⟨#[]⟩] 24 (0, 0)) (by simp))
    go_wp2_with fail
    go_at_call 21
    ((with_reducible refine (C2.out _).mono ?_); rintro e w6 ⟨N6, rfl, hb⟩)
    have HB := Lib.hid (HB.out.trans ((hb.trans ((alloc_below _ (.cells #[.int .i64 0, .int .i64 0, .string ⟨#[]⟩] 24)).mono hb.size)).mono HB.out.size))
    have HL := Lib.hid ((HL.out.next hb).alloc (.cells #[.int .i64 0, .int .i64 0, .string ⟨#[]⟩] 24 (0, 0)))
    clear hb v0 v1 v2 n0 n1 n2
    obtain ⟨v0, v1, v2⟩ := box3 (HL.out (w1.heap.size, .cells #[.int .i64 2, .int .i64 n, .string ⟨#[]⟩] 24 (0, 0)) (by simp))
    obtain ⟨n0, n1, n2⟩ := box3 (HL.out (w1.heap.size + 1, .cells #[.int .i64 0, .int .i64 0, .string ⟨#[]⟩] 24 (0, 0)) (by simp))
    go_wp2_with fail
    go_at_call 20
    refine (AL.out _ (HG.out.below HB.out)).mono ?_
    rintro e w9 ⟨rfl, hb⟩
    have HB := Lib.hid (HB.out.trans (hb.mono HB.out.size))
    have HL := Lib.hid (HL.out.next hb)
    clear hb v0 v1 v2 n0 n1 n2
    obtain ⟨n0, n1, n2⟩ := box3 (HL.out (w1.heap.size + 1, .cells #[.int .i64 0, .int .i64 0, .string ⟨#[]⟩] 24 (0, 0)) (by simp))
    obtain ⟨a0, a1, a2⟩ := box3 (HL.out (w3.heap.size, .cells #[.int .i64 0, .int .i64 0, .string ⟨#[]⟩] 24 (0, 0)) (by simp))
    obtain ⟨b0, b1, b2⟩ := box3 (HL.out (w4.heap.size, .cells #[.int .i64 0, .int .i64 0, .string ⟨#[]⟩] 24 (0, 0)) (by simp))
    obtain ⟨c0, c1, c2⟩ := box3 (HL.out (w5.heap.size, .cells #[.int .i64 0, .int .i64 0, .string ⟨#[]⟩] 24 (0, 0)) (by simp))
    obtain ⟨d0, d1, d2⟩ := box3 (HL.out (w6.heap.size, .cells #[.int .i64 0, .int .i64 0, .string ⟨#[]⟩] 24 (0, 0)) (by simp))
    go_wp2_with fail
    go_ret
    first | exact ⟨rfl, HB.out⟩ | exact ⟨ret_boolN (by simp; omega), HB.out⟩
  | true =>
    have R1 := Lib.hid (((reckon_nul op 3 n 0 0 (.inr (.inl rfl)) (.inr (.inr ⟨rfl, rfl⟩)) (.inr rfl) hn o0).1 (by omega)))
    have R2 := Lib.hid (((reckon_nul op 0 0 3 n (.inr (.inr ⟨rfl, rfl⟩)) (.inr (.inl rfl)) (.inl rfl) o0 hn).1 (by omega)))
    have C1 := Lib.hid (((compare_nul op 3 n 0 0 (.inr (.inl rfl)) (.inr (.inr ⟨rfl, rfl⟩)) (.inr rfl)).1 (by omega)))
    have C2 := Lib.hid (((compare_nul op 0 0 3 n (.inr (.inr ⟨rfl, rfl⟩)) (.inr (.inl rfl)) (.inl rfl)).1 (by omega)))
    clear hg hn hop o0
    go_enter Tryd.func10, Tryd.ntmps10
    go_wp2_with fail
    go_at_call 26
    refine (WH.out _ _).mono ?_
    rintro e w1 ⟨rfl, hb⟩
    have HW : Hid (w.heap.size ≤ w1.heap.size) := Lib.hid (HB.out.trans (hb.mono HB.out.size)).size
    have HB := Lib.hid (HB.out.trans ((hb.trans ((alloc_below _ (.cells #[.int .i64 2, .int .i64 n, .string ⟨#[]⟩] 24)).mono hb.size)).mono HB.out.size))
    have HL := Lib.hid ((HL.out.next hb).alloc (.cells #[.int .i64 2, .int .i64 n, .string ⟨#[]⟩] 24 (0, 0)))
    clear hb
    go_wp2_with fail
    go_at_call 27
    refine (DC.out _ _).mono ?_
    rintro e w2 ⟨rfl, hb⟩
    have HL := Lib.hid (HL.out.next hb)
    have hv := HL.out _ (List.mem_cons_self ..)
    obtain ⟨q0, q1, q2⟩ := box3 hv
    have z0 := frozen3 hv 0
    have z1 := frozen3 hv 1
    have z2 := frozen3 hv 2
    clear hv
    have HB := Lib.hid (below_setAlloc (set3_below0 (HB.out.trans (hb.mono HB.out.size)) HW.out (.int .i64 3) (.int .i64 n) (.string ⟨#[]⟩)) (.cells #[.int .i64 0, .int .i64 0, .string ⟨#[]⟩] 24))
    have HL := Lib.hid (Held.allocS (Held.cast (HL.out.set3 (fun _ h => absurd h (by simp)) 0 1 2 (.int .i64 3) (.int .i64 n) (.string ⟨#[]⟩)) (show _ = .cells #[.int .i64 3, .int .i64 n, .string ⟨#[]⟩] 24 (0, 0) from rfl)) (.cells #[.int .i64 0, .int .i64 0, .string ⟨#[]⟩] 24 (0, 0)))
    clear hb
    obtain ⟨v0, v1, v2⟩ := box3 (HL.out (w1.heap.size, .cells #[.int .i64 3, .int .i64 n, .string ⟨#[]⟩] 24 (0, 0)) (by simp))
    obtain ⟨n0, n1, n2⟩ := box3 (HL.out (w2.heap.size, .cells #[.int .i64 0, .int .i64 0, .string ⟨#[]⟩] 24 (0, 0)) (by simp))
    go_wp2_with fail
    go_at_call 28
    ((with_reducible refine (R1.out _).mono ?_); rintro e w3 ⟨N3, rfl, hb⟩)
    have HB := Lib.hid (HB.out.trans ((hb.trans ((alloc_below _ (.cells #[.int .i64 0, .int .i64 0, .string ⟨#[]⟩] 24)).mono hb.size)).mono HB.out.size))
    have HL := Lib.hid ((HL.out.next hb).alloc (.cells #[.int .i64 0, .int .i64 0, .string ⟨#[]⟩] 24 (0, 0)))
    clear hb v0 v1 v2 n0 n1 n2
    obtain ⟨v0, v1, v2⟩ := box3 (HL.out (w1.heap.size, .cells #[.int .i64 3, .int .i64 n, .string ⟨#[]⟩] 24 (0, 0)) (by simp))
    obtain ⟨n0, n1, n2⟩ := box3 (HL.out (w2.heap.size, .cells #[.int .i64 0, .int .i64 0, .string ⟨#[]⟩] 24 (0, 0)) (by simp))
    go_wp2_with fail
    go_at_call 28
    ((with_reducible refine (R2.out _).mono ?_); rintro e w4 ⟨N4, rfl, hb⟩)
    have HB := Lib.hid (HB.out.trans ((hb.trans ((alloc_below _ (.cells #[.int .i64 0, .int .i64 0, .string ⟨#[]⟩] 24)).mono hb.size)).mono HB.out.size))
    have HL := Lib.hid ((HL.out.next hb).alloc (.cells #[.int .i64 0, .int .i64 0, .string ⟨#[]⟩] 24 (0, 0)))
    clear hb v0 v1 v2 n0 n1 n2
    obtain ⟨v0, v1, v2⟩ := box3 (HL.out (w1.heap.size, .cells #[.int .i64 3, .int .i64 n, .string ⟨#[]⟩] 24 (0, 0)) (by simp))
    obtain ⟨n0, n1, n2⟩ := box3 (HL.out (w2.heap.size, .cells #[.int .i64 0, .int .i64 0, .string ⟨#[]⟩] 24 (0, 0)) (by simp))
    go_wp2_with fail
    go_at_call 21
    ((with_reducible refine (C1.out _).mono ?_); rintro e w5 ⟨N5, rfl, hb⟩)
    have HB := Lib.hid (HB.out.trans ((hb.trans ((alloc_below _ (.cells #[.int .i64 0, .int .i64 0, .string ⟨#[]⟩] 24)).mono hb.size)).mono HB.out.size))
    have HL := Lib.hid ((HL.out.next hb).alloc (.cells #[.int .i64 0, .int .i64 0, .string ⟨#[]⟩] 24 (0, 0)))
    clear hb v0 v1 v2 n0 n1 n2
    obtain ⟨v0, v1, v2⟩ := box3 (HL.out (w1.heap.size, .cells #[.int .i64 3, .int .i64 n, .string ⟨#[]⟩] 24 (0, 0)) (by simp))
    obtain ⟨n0, n1, n2⟩ := box3 (HL.out (w2.heap.size, .cells #[.int .i64 0, .int .i64 0, .string ⟨#[]⟩] 24 (0, 0)) (by simp))
    go_wp2_with fail
    go_at_call 21
    ((with_reducible refine (C2.out _).mono ?_); rintro e w6 ⟨N6, rfl, hb⟩)
    have HB := Lib.hid (HB.out.trans ((hb.trans ((alloc_below _ (.cells #[.int .i64 0, .int .i64 0, .string ⟨#[]⟩] 24)).mono hb.size)).mono HB.out.size))
    have HL := Lib.hid ((HL.out.next hb).alloc (.cells #[.int .i64 0, .int .i64 0, .string ⟨#[]⟩] 24 (0, 0)))
    clear hb v0 v1 v2 n0 n1 n2
    obtain ⟨v0, v1, v2⟩ := box3 (HL.out (w1.heap.size, .cells #[.int .i64 3, .int .i64 n, .string ⟨#[]⟩] 24 (0, 0)) (by simp))
    obtain ⟨n0, n1, n2⟩ := box3 (HL.out (w2.heap.size, .cells #[.int .i64 0, .int .i64 0, .string ⟨#[]⟩] 24 (0, 0)) (by simp))
    go_wp2_with fail
    go_at_call 20
    refine (AL.out _ (HG.out.below HB.out)).mono ?_
    rintro e w9 ⟨rfl, hb⟩
    have HB := Lib.hid (HB.out.trans (hb.mono HB.out.size))
    have HL := Lib.hid (HL.out.next hb)
    clear hb v0 v1 v2 n0 n1 n2
    obtain ⟨n0, n1, n2⟩ := box3 (HL.out (w2.heap.size, .cells #[.int .i64 0, .int .i64 0, .string ⟨#[]⟩] 24 (0, 0)) (by simp))
    obtain ⟨a0, a1, a2⟩ := box3 (HL.out (w3.heap.size, .cells #[.int .i64 0, .int .i64 0, .string ⟨#[]⟩] 24 (0, 0)) (by simp))
    obtain ⟨b0, b1, b2⟩ := box3 (HL.out (w4.heap.size, .cells #[.int .i64 0, .int .i64 0, .string ⟨#[]⟩] 24 (0, 0)) (by simp))
    obtain ⟨c0, c1, c2⟩ := box3 (HL.out (w5.heap.size, .cells #[.int .i64 0, .int .i64 0, .string ⟨#[]⟩] 24 (0, 0)) (by simp))
    obtain ⟨d0, d1, d2⟩ := box3 (HL.out (w6.heap.size, .cells #[.int .i64 0, .int .i64 0, .string ⟨#[]⟩] 24 (0, 0)) (by simp))
    go_wp2_with fail
    go_ret
    first | exact ⟨rfl, HB.out⟩ | exact ⟨ret_boolN (by simp; omega), HB.out⟩
theorem null_law (n op : Int) (d : Bool) (hn : i64ok n) (w : World) (hg : Handle w) : Calls Tryd.prog 10 #[.int .i64 n, .bool d, .int .i64 op] w (Ans (.bool true) w) := by
  by_cases a : op < 3
  · exact null_law_a n op d hn a w hg
  · by_cases b : op ≤ 6
    · exact null_law_b n op d hn ⟨by omega, b⟩ w hg
    · by_cases c : op = 7
      · exact null_law_c n op d hn c w hg
      · by_cases e : op ≤ 13
        · exact null_law_d n op d hn ⟨by omega, e⟩ w hg
        · exact null_law_e n op d hn (by omega) w hg
end Go.Proofs.YtlegmecmoaibbaaDoor
