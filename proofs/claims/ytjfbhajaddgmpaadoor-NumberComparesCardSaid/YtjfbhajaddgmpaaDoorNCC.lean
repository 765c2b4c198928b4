/- The document's numbers of any size: Mul of a number and of 10000, scaled. -/
import Derived.LoopN
import Derived.Test.YtjfbhajaddgmpaaDoorNCA
namespace Go.Proofs.YtjfbhajaddgmpaaDoor
open Go.RowKit

/-- Mul's four blocks: the two, the answer's, and the sum -/
structure MT (w W : World) (m : Bool) (p q d0 d1 d2 d3 : Int) : Prop where
  a : W.heap[w.heap.size]? = some (.cells (bigC m p q 0 0 0 0) 58 (0, 0))
  b : W.heap[w.heap.size + 1]? = some (.cells (bigC false 10000 0 0 0 0 0) 58 (0, 0))
  r : W.heap[w.heap.size + 1 + 1]? = some (.cells (bigC false 0 0 0 0 0 0) 58 (0, 0))
  o : W.heap[w.heap.size + 1 + 1 + 1]? = some (.cells (bigC false d0 d1 d2 d3 0 0) 58 (0, 0))
  bel : Below w.heap.size w W
theorem MT.new (w : World) (m : Bool) (p q : Int) : MT w ((((w.alloc (.cells #[.bool m, .int .u64 p, .int .u64 q, .int .u64 0, .int .u64 0, .int .u64 0, .int .u64 0] 58)).alloc (.cells #[.bool false, .int .u64 10000, .int .u64 0, .int .u64 0, .int .u64 0, .int .u64 0, .int .u64 0] 58)).alloc (.cells #[.bool false, .int .u64 0, .int .u64 0, .int .u64 0, .int .u64 0, .int .u64 0, .int .u64 0] 58)).alloc (.cells #[.bool false, .int .u64 0, .int .u64 0, .int .u64 0, .int .u64 0, .int .u64 0, .int .u64 0] 58)) m p q 0 0 0 0 := by
  have e : ∀ (v : World) o, (v.alloc o).heap.size = v.heap.size + 1 := fun v o => by simp
  refine ⟨?_, ?_, ?_, ?_, ?_⟩
  · rw [heap_at, if_neg (by rw [e, e, e]; omega), heap_at, if_neg (by rw [e, e]; omega), heap_at, if_neg (by rw [e]; omega), heap_at, if_pos rfl]; rfl
  · rw [heap_at, if_neg (by rw [e, e, e]; omega), heap_at, if_neg (by rw [e, e]; omega), heap_at, if_pos (by rw [e])]; rfl
  · rw [heap_at, if_neg (by rw [e, e, e]; omega), heap_at, if_pos (by rw [e, e])]; rfl
  · rw [heap_at, if_pos (by rw [e, e, e])]; rfl
  · exact ((((alloc_below w _).trans ((alloc_below _ _).mono (by rw [e]; omega))).trans ((alloc_below _ _).mono (by rw [e, e]; omega))).trans ((alloc_below _ _).mono (by rw [e, e, e]; omega)))
theorem MT.drew {w W : World} {m : Bool} {p q d0 d1 d2 d3 : Int} (h : MT w W m p q d0 d1 d2 d3) (n : Nat) : MT w (W.drewN n) m p q d0 d1 d2 d3 := ⟨h.a, h.b, h.r, h.o, h.bel.trans ((drewN_below W n).mono h.bel.size)⟩
theorem heap_setCell_ne {w : World} {g b : Nat} (hne : g ≠ b) (o : Nat) (u : Value) : (w.setCell ⟨b, o, none⟩ u).heap[g]? = w.heap[g]? := Below.heap_setCell _ _ _ _ (fun e => hne (by rw [e]))
theorem MT.set0 {w W : World} {m : Bool} {p q d0 d1 d2 d3 : Int} (h : MT w W m p q d0 d1 d2 d3) (x : Int) : MT w (W.setCell ⟨w.heap.size + 1 + 1 + 1, 1, none⟩ (.int .u64 x)) m p q x d1 d2 d3 :=
  ⟨(heap_setCell_ne (by omega) _ _).trans h.a, (heap_setCell_ne (by omega) _ _).trans h.b, (heap_setCell_ne (by omega) _ _).trans h.r, by rw [heap_setCell_at h.o]; simp [bigC], h.bel.setCell (p := ⟨w.heap.size + 1 + 1 + 1, 1, none⟩) (by show w.heap.size ≤ w.heap.size + 1 + 1 + 1; omega) _⟩
theorem MT.set1 {w W : World} {m : Bool} {p q d0 d1 d2 d3 : Int} (h : MT w W m p q d0 d1 d2 d3) (x : Int) : MT w (W.setCell ⟨w.heap.size + 1 + 1 + 1, 2, none⟩ (.int .u64 x)) m p q d0 x d2 d3 :=
  ⟨(heap_setCell_ne (by omega) _ _).trans h.a, (heap_setCell_ne (by omega) _ _).trans h.b, (heap_setCell_ne (by omega) _ _).trans h.r, by rw [heap_setCell_at h.o]; simp [bigC], h.bel.setCell (p := ⟨w.heap.size + 1 + 1 + 1, 2, none⟩) (by show w.heap.size ≤ w.heap.size + 1 + 1 + 1; omega) _⟩
theorem MT.set2 {w W : World} {m : Bool} {p q d0 d1 d2 d3 : Int} (h : MT w W m p q d0 d1 d2 d3) (x : Int) : MT w (W.setCell ⟨w.heap.size + 1 + 1 + 1, 3, none⟩ (.int .u64 x)) m p q d0 d1 x d3 :=
  ⟨(heap_setCell_ne (by omega) _ _).trans h.a, (heap_setCell_ne (by omega) _ _).trans h.b, (heap_setCell_ne (by omega) _ _).trans h.r, by rw [heap_setCell_at h.o]; simp [bigC], h.bel.setCell (p := ⟨w.heap.size + 1 + 1 + 1, 3, none⟩) (by show w.heap.size ≤ w.heap.size + 1 + 1 + 1; omega) _⟩
theorem MT.set3 {w W : World} {m : Bool} {p q d0 d1 d2 d3 : Int} (h : MT w W m p q d0 d1 d2 d3) (x : Int) : MT w (W.setCell ⟨w.heap.size + 1 + 1 + 1, 4, none⟩ (.int .u64 x)) m p q d0 d1 d2 x :=
  ⟨(heap_setCell_ne (by omega) _ _).trans h.a, (heap_setCell_ne (by omega) _ _).trans h.b, (heap_setCell_ne (by omega) _ _).trans h.r, by rw [heap_setCell_at h.o]; simp [bigC], h.bel.setCell (p := ⟨w.heap.size + 1 + 1 + 1, 4, none⟩) (by show w.heap.size ≤ w.heap.size + 1 + 1 + 1; omega) _⟩
theorem MT.set4 {w W : World} {m : Bool} {p q d0 d1 d2 d3 : Int} (h : MT w W m p q d0 d1 d2 d3) : MT w (W.setCell ⟨w.heap.size + 1 + 1 + 1, 5, none⟩ (.int .u64 0)) m p q d0 d1 d2 d3 :=
  ⟨(heap_setCell_ne (by omega) _ _).trans h.a, (heap_setCell_ne (by omega) _ _).trans h.b, (heap_setCell_ne (by omega) _ _).trans h.r, by rw [heap_setCell_at h.o]; simp [bigC], h.bel.setCell (p := ⟨w.heap.size + 1 + 1 + 1, 5, none⟩) (by show w.heap.size ≤ w.heap.size + 1 + 1 + 1; omega) _⟩
theorem fro7 {w : World} {b : Nat} {cs : Array Value} {t : TypeId} (h : w.heap[b]? = some (.cells cs t (0, 0))) : w.frozen? ⟨b, 0, none⟩ = false ∧ w.frozen? ⟨b, 1, none⟩ = false ∧ w.frozen? ⟨b, 2, none⟩ = false ∧ w.frozen? ⟨b, 3, none⟩ = false ∧ w.frozen? ⟨b, 4, none⟩ = false ∧ w.frozen? ⟨b, 5, none⟩ = false ∧ w.frozen? ⟨b, 6, none⟩ = false :=
  ⟨frozen3 h 0, frozen3 h 1, frozen3 h 2, frozen3 h 3, frozen3 h 4, frozen3 h 5, frozen3 h 6⟩
theorem put_big {w W : World} (h : Below w.heap.size w W) {g k : Nat} (hg : w.heap.size ≤ g) (hk : w.heap.size ≤ k) (x : Value) (a b c d e f u : Value) :
    Below w.heap.size w ((((((((W.setCell ⟨k, 0, none⟩ x).setCell ⟨g, 0, none⟩ a).setCell ⟨g, 1, none⟩ b).setCell ⟨g, 2, none⟩ c).setCell ⟨g, 3, none⟩ d).setCell ⟨g, 4, none⟩ e).setCell ⟨g, 5, none⟩ f).setCell ⟨g, 6, none⟩ u) :=
  (((((((h.setCell (p := ⟨k, 0, none⟩) hk x).setCell (p := ⟨g, 0, none⟩) hg a).setCell (p := ⟨g, 1, none⟩) hg b).setCell (p := ⟨g, 2, none⟩) hg c).setCell (p := ⟨g, 3, none⟩) hg d).setCell (p := ⟨g, 4, none⟩) hg e).setCell (p := ⟨g, 5, none⟩) hg f).setCell (p := ⟨g, 6, none⟩) hg u
theorem at_world {G : World → Prop} {W : World} (R : World → Prop) (h : R W) (k : ∀ W', R W' → G W') : G W := k W h
theorem u64w {n : Int} (h : 0 ≤ n) (h2 : n < 18446744073709551616) : IntKind.u64.wrap n = n := by rw [IntKind.wrap_u64]; omega
set_option maxRecDepth 100000 in
set_option maxHeartbeats 8000000 in
theorem refBig_mul (m : Bool) (p q : Int) (hp : 0 ≤ p ∧ p < 4294967296) (hq : 0 ≤ q ∧ q ≤ 2147483648) (w : World) : Calls Tryd.prog 42 #[.agg (bigC m p q 0 0 0 0), .agg (bigC false 10000 0 0 0 0 0)] w (Ans (.agg (bigC m (p * 10000 % 4294967296) ((p * 10000 / 4294967296 + q * 10000) % 4294967296) ((p * 10000 / 4294967296 + q * 10000) / 4294967296) 0 0 0)) w) := by
  obtain ⟨A, HA⟩ : ∃ A : Int, Hid (A = p * 10000) := ⟨_, Lib.hid rfl⟩
  obtain ⟨Q, HQ⟩ : ∃ Q : Int, Hid (Q = q * 10000) := ⟨_, Lib.hid rfl⟩
  rw [← HA.out, ← HQ.out]
  obtain ⟨o0, HO0⟩ : ∃ o0 : Int, Hid (o0 = A % 4294967296) := ⟨_, Lib.hid rfl⟩
  obtain ⟨c0, HC0⟩ : ∃ c0 : Int, Hid (c0 = A / 4294967296) := ⟨_, Lib.hid rfl⟩
  rw [← HO0.out, ← HC0.out]
  obtain ⟨S, HS⟩ : ∃ S : Int, Hid (S = c0 + Q) := ⟨_, Lib.hid rfl⟩
  rw [← HS.out]
  obtain ⟨o1, HO1⟩ : ∃ o1 : Int, Hid (o1 = S % 4294967296) := ⟨_, Lib.hid rfl⟩
  obtain ⟨c1, HC1⟩ : ∃ c1 : Int, Hid (c1 = S / 4294967296) := ⟨_, Lib.hid rfl⟩
  rw [← HO1.out, ← HC1.out]
  have wA : IntKind.u64.wrap (p * 10000) = A := by rw [HA.out]; exact u64w (by omega) (by omega)
  have wA2 : IntKind.u64.wrap A = A := u64w (by have := HA.out; omega) (by have := HA.out; omega)
  have rA : A % 4294967296 = o0 := HO0.out.symm
  have dA : A / 4294967296 = c0 := HC0.out.symm
  have hc0 : 0 ≤ c0 ∧ c0 < 10000 := by have := HA.out; have := HC0.out; omega
  have wc0 : IntKind.u64.wrap c0 = c0 := u64w (by omega) (by omega)
  have rc0 : c0 % 4294967296 = c0 := by omega
  have dc0 : c0 / 4294967296 = 0 := by omega
  have wQ : IntKind.u64.wrap (q * 10000) = Q := by rw [HQ.out]; exact u64w (by omega) (by omega)
  have wS : IntKind.u64.wrap (c0 + Q) = S := by rw [HS.out]; exact u64w (by have := HQ.out; omega) (by have := HQ.out; omega)
  have wS2 : IntKind.u64.wrap S = S := u64w (by have := HQ.out; have := HS.out; omega) (by have := HQ.out; have := HS.out; omega)
  have rS : S % 4294967296 = o1 := HO1.out.symm
  have dS : S / 4294967296 = c1 := HC1.out.symm
  have hc1 : 0 ≤ c1 ∧ c1 < 10000 := by have := HQ.out; have := HS.out; have := HC1.out; omega
  have wc1 : IntKind.u64.wrap c1 = c1 := u64w (by omega) (by omega)
  have rc1 : c1 % 4294967296 = c1 := by omega
  have dc1 : c1 / 4294967296 = 0 := by omega
  clear hp hq hc0 hc1 HA HQ HO0 HC0 HS HO1 HC1
  have HZ := Lib.hid (MT.new w m p q)
  unfold bigC
  go_enter Tryd.func42, Tryd.ntmps42
  go_wp2_with fail
  refine wp_loop_rounds 4 ?_
  refine at_world (G := fun W => Code.rounds _ _ _ _ _ W) (fun W => MT w W m p q 0 0 0 0) ?h ?_
  case h => exact HZ.out
  intro W0 hz
  replace HZ := Lib.hid hz
  have HA := box7 hz.a
  have HB := box7 hz.b
  have HR := box7 hz.r
  have ⟨fo0, fo1, fo2, fo3, fo4, fo5, fo6⟩ := fro7 hz.o
  have ⟨fr0, fr1, fr2, fr3, fr4, fr5, fr6⟩ := fro7 hz.r
  have HO := box7 hz.o
  obtain ⟨a0, a1, a2, a3, -⟩ := HA
  obtain ⟨b0, b1, b2, b3, -⟩ := HB
  obtain ⟨q0, q1, q2, q3, q4, q5, q6⟩ := HO
  obtain ⟨r0, r1, r2, r3, r4, r5, r6⟩ := HR
  clear hz
  rw [rounds_succ]
  go_wp2_with fail
  refine wp_loop_rounds 4 ?_
  rw [rounds_succ]
  (go_wp2_with fail; go_quiet (fail); go_wp2_with fail)
  rw [rounds_succ]
  (go_wp2_with fail; go_quiet (fail); go_wp2_with fail)
  rw [rounds_succ]
  (go_wp2_with fail; go_quiet (fail); go_wp2_with fail)
  rw [rounds_succ]
  go_wp2_with fail
  refine wp_loop_rounds 1 ?_
  rw [rounds_succ]
  go_wp2_with fail
  clear a0 a1 a2 a3 b0 b1 b2 b3 q0 q1 q2 q3 q4 q5 q6 r0 r1 r2 r3 r4 r5 r6 fo0 fo1 fo2 fo3 fo4 fo5 fo6 fr0 fr1 fr2 fr3 fr4 fr5 fr6
  refine at_world (G := fun W => Code.rounds _ _ _ _ _ W) (fun W => MT w W m p q o0 c0 0 0) ?h ?_
  case h => exact (((((HZ.out.drew _).set0 _).drew _).set1 _).drew _).set2 _
  intro W1 hz
  replace HZ := Lib.hid hz
  have HA := box7 hz.a
  have HB := box7 hz.b
  have HR := box7 hz.r
  have ⟨fo0, fo1, fo2, fo3, fo4, fo5, fo6⟩ := fro7 hz.o
  have ⟨fr0, fr1, fr2, fr3, fr4, fr5, fr6⟩ := fro7 hz.r
  have HO := box7 hz.o
  obtain ⟨a0, a1, a2, a3, -⟩ := HA
  obtain ⟨b0, b1, b2, b3, -⟩ := HB
  obtain ⟨q0, q1, q2, q3, q4, q5, q6⟩ := HO
  obtain ⟨r0, r1, r2, r3, r4, r5, r6⟩ := HR
  clear hz
  rw [rounds_succ]
  go_wp2_with fail
  refine wp_loop_rounds 4 ?_
  rw [rounds_succ]
  (go_wp2_with fail; go_quiet (fail); go_wp2_with fail)
  rw [rounds_succ]
  (go_wp2_with fail; go_quiet (fail); go_wp2_with fail)
  rw [rounds_succ]
  (go_wp2_with fail; go_quiet (fail); go_wp2_with fail)
  rw [rounds_succ]
  go_wp2_with fail
  refine wp_loop_rounds 1 ?_
  rw [rounds_succ]
  go_wp2_with fail
  clear a0 a1 a2 a3 b0 b1 b2 b3 q0 q1 q2 q3 q4 q5 q6 r0 r1 r2 r3 r4 r5 r6 fo0 fo1 fo2 fo3 fo4 fo5 fo6 fr0 fr1 fr2 fr3 fr4 fr5 fr6
  refine at_world (G := fun W => Code.rounds _ _ _ _ _ W) (fun W => MT w W m p q o0 o1 c1 0) ?h ?_
  case h => exact (((((HZ.out.drew _).set1 _).drew _).set2 _).drew _).set3 _
  intro W2 hz
  replace HZ := Lib.hid hz
  have HA := box7 hz.a
  have HB := box7 hz.b
  have HR := box7 hz.r
  have ⟨fo0, fo1, fo2, fo3, fo4, fo5, fo6⟩ := fro7 hz.o
  have ⟨fr0, fr1, fr2, fr3, fr4, fr5, fr6⟩ := fro7 hz.r
  have HO := box7 hz.o
  obtain ⟨a0, a1, a2, a3, -⟩ := HA
  obtain ⟨b0, b1, b2, b3, -⟩ := HB
  obtain ⟨q0, q1, q2, q3, q4, q5, q6⟩ := HO
  obtain ⟨r0, r1, r2, r3, r4, r5, r6⟩ := HR
  clear hz
  rw [rounds_succ]
  go_wp2_with fail
  refine wp_loop_rounds 4 ?_
  rw [rounds_succ]
  (go_wp2_with fail; go_quiet (fail); go_wp2_with fail)
  rw [rounds_succ]
  (go_wp2_with fail; go_quiet (fail); go_wp2_with fail)
  rw [rounds_succ]
  (go_wp2_with fail; go_quiet (fail); go_wp2_with fail)
  rw [rounds_succ]
  go_wp2_with fail
  refine wp_loop_rounds 1 ?_
  rw [rounds_succ]
  go_wp2_with fail
  clear a0 a1 a2 a3 b0 b1 b2 b3 q0 q1 q2 q3 q4 q5 q6 r0 r1 r2 r3 r4 r5 r6 fo0 fo1 fo2 fo3 fo4 fo5 fo6 fr0 fr1 fr2 fr3 fr4 fr5 fr6
  refine at_world (G := fun W => Code.rounds _ _ _ _ _ W) (fun W => MT w W m p q o0 o1 c1 0) ?h ?_
  case h => exact (((((HZ.out.drew _).set2 _).drew _).set3 _).drew _).set4
  intro W3 hz
  replace HZ := Lib.hid hz
  have HA := box7 hz.a
  have HB := box7 hz.b
  have HR := box7 hz.r
  have ⟨fo0, fo1, fo2, fo3, fo4, fo5, fo6⟩ := fro7 hz.o
  have ⟨fr0, fr1, fr2, fr3, fr4, fr5, fr6⟩ := fro7 hz.r
  have HO := box7 hz.o
  obtain ⟨a0, a1, a2, a3, -⟩ := HA
  obtain ⟨b0, b1, b2, b3, -⟩ := HB
  obtain ⟨q0, q1, q2, q3, q4, q5, q6⟩ := HO
  obtain ⟨r0, r1, r2, r3, r4, r5, r6⟩ := HR
  clear hz
  rw [rounds_succ]
  go_wp2_with fail
  exact bodyPost_ret (v := .agg (bigC m o0 o1 c1 0 0 0)) (by simp [results, Tryd.results42, go_sem, bigC, r0, r1, r2, r3, r4, r5, r6]) rfl ⟨rfl, put_big HZ.out.bel (by omega) (by omega) _ _ _ _ _ _ _ _⟩
end Go.Proofs.YtjfbhajaddgmpaaDoor
