/- The document's numbers of any size: Add, two signs, the first the less. -/
import Derived.Test.YtjfbhajaddgmpaaDoorNCF
namespace Go.Proofs.YtjfbhajaddgmpaaDoor
open Go.RowKit

theorem heap_set7 {W : World} {g : Nat} {m : Bool} {p0 p1 p2 p3 p4 p5 : Int} {t : TypeId} {fr : Nat × Nat} (h : W.heap[g]? = some (.cells (bigC m p0 p1 p2 p3 p4 p5) t fr)) (n : Bool) (a b c d e f : Int) :
    (((((((W.setCell ⟨g, 0, none⟩ (.bool n)).setCell ⟨g, 1, none⟩ (.int .u64 a)).setCell ⟨g, 2, none⟩ (.int .u64 b)).setCell ⟨g, 3, none⟩ (.int .u64 c)).setCell ⟨g, 4, none⟩ (.int .u64 d)).setCell ⟨g, 5, none⟩ (.int .u64 e)).setCell ⟨g, 6, none⟩ (.int .u64 f)).heap[g]? = some (.cells (bigC n a b c d e f) t fr) := by
  have k := heap_setCell_at (heap_setCell_at (heap_setCell_at (heap_setCell_at (heap_setCell_at (heap_setCell_at (heap_setCell_at h 0 (.bool n)) 1 (.int .u64 a)) 2 (.int .u64 b)) 3 (.int .u64 c)) 4 (.int .u64 d)) 5 (.int .u64 e)) 6 (.int .u64 f)
  simpa [bigC] using k
theorem heap_set7_ne {W : World} {g k : Nat} (hne : k ≠ g) (n : Bool) (a b c d e f : Int) : (((((((W.setCell ⟨g, 0, none⟩ (.bool n)).setCell ⟨g, 1, none⟩ (.int .u64 a)).setCell ⟨g, 2, none⟩ (.int .u64 b)).setCell ⟨g, 3, none⟩ (.int .u64 c)).setCell ⟨g, 4, none⟩ (.int .u64 d)).setCell ⟨g, 5, none⟩ (.int .u64 e)).setCell ⟨g, 6, none⟩ (.int .u64 f)).heap[k]? = W.heap[k]? := by
  rw [heap_setCell_ne hne, heap_setCell_ne hne, heap_setCell_ne hne, heap_setCell_ne hne, heap_setCell_ne hne, heap_setCell_ne hne, heap_setCell_ne hne]
theorem below_set7 {w W : World} (h : Below w.heap.size w W) {g : Nat} (hg : w.heap.size ≤ g) (n : Bool) (a b c d e f : Int) : Below w.heap.size w (((((((W.setCell ⟨g, 0, none⟩ (.bool n)).setCell ⟨g, 1, none⟩ (.int .u64 a)).setCell ⟨g, 2, none⟩ (.int .u64 b)).setCell ⟨g, 3, none⟩ (.int .u64 c)).setCell ⟨g, 4, none⟩ (.int .u64 d)).setCell ⟨g, 5, none⟩ (.int .u64 e)).setCell ⟨g, 6, none⟩ (.int .u64 f)) := put_big7 h hg _ _ _ _ _ _ _
theorem size_set7 (W : World) (g : Nat) (n : Bool) (a b c d e f : Int) : (((((((W.setCell ⟨g, 0, none⟩ (.bool n)).setCell ⟨g, 1, none⟩ (.int .u64 a)).setCell ⟨g, 2, none⟩ (.int .u64 b)).setCell ⟨g, 3, none⟩ (.int .u64 c)).setCell ⟨g, 4, none⟩ (.int .u64 d)).setCell ⟨g, 5, none⟩ (.int .u64 e)).setCell ⟨g, 6, none⟩ (.int .u64 f)).heap.size = W.heap.size := by simp only [size_setCell]
theorem AT.swap {w W : World} {m : Bool} {a0 a1 a2 : Int} {m2 : Bool} {b0 b1 b2 : Int} {mo : Bool} {d0 d1 d2 d3 : Int} (h : AT w W m a0 a1 a2 m2 b0 b1 b2 mo d0 d1 d2 d3) : AT w ((((((((((((((W.setCell ⟨w.heap.size, 0, none⟩ (.bool m2)).setCell ⟨w.heap.size, 1, none⟩ (.int .u64 b0)).setCell ⟨w.heap.size, 2, none⟩ (.int .u64 b1)).setCell ⟨w.heap.size, 3, none⟩ (.int .u64 b2)).setCell ⟨w.heap.size, 4, none⟩ (.int .u64 0)).setCell ⟨w.heap.size, 5, none⟩ (.int .u64 0)).setCell ⟨w.heap.size, 6, none⟩ (.int .u64 0)).setCell ⟨(w.heap.size + 1), 0, none⟩ (.bool m)).setCell ⟨(w.heap.size + 1), 1, none⟩ (.int .u64 a0)).setCell ⟨(w.heap.size + 1), 2, none⟩ (.int .u64 a1)).setCell ⟨(w.heap.size + 1), 3, none⟩ (.int .u64 a2)).setCell ⟨(w.heap.size + 1), 4, none⟩ (.int .u64 0)).setCell ⟨(w.heap.size + 1), 5, none⟩ (.int .u64 0)).setCell ⟨(w.heap.size + 1), 6, none⟩ (.int .u64 0)) m2 b0 b1 b2 m a0 a1 a2 mo d0 d1 d2 d3 :=
  ⟨(heap_set7_ne (by omega) _ _ _ _ _ _ _).trans (heap_set7 h.a _ _ _ _ _ _ _), heap_set7 ((heap_set7_ne (by omega) _ _ _ _ _ _ _).trans h.b) _ _ _ _ _ _ _, (heap_set7_ne (by omega) _ _ _ _ _ _ _).trans ((heap_set7_ne (by omega) _ _ _ _ _ _ _).trans h.r), (heap_set7_ne (by omega) _ _ _ _ _ _ _).trans ((heap_set7_ne (by omega) _ _ _ _ _ _ _).trans h.o),
   below_set7 (below_set7 h.bel (Nat.le_refl _) _ _ _ _ _ _ _) (Nat.le_succ _) _ _ _ _ _ _ _, by rw [size_set7, size_set7]; exact h.lt⟩
set_option maxRecDepth 100000 in
set_option maxHeartbeats 16000000 in
theorem refBig_addLess (m : Bool) (a0 a1 a2 b0 b1 b2 : Int) (ha : 0 ≤ a0 ∧ a0 < 4294967296 ∧ 0 ≤ a1 ∧ a1 < 4294967296 ∧ 0 ≤ a2 ∧ a2 < 1000000) (hb : 0 ≤ b0 ∧ b0 < 4294967296 ∧ 0 ≤ b1 ∧ b1 < 4294967296 ∧ 0 ≤ b2 ∧ b2 < 1000000) (hge : b0 + b1 * 4294967296 + b2 * 18446744073709551616 ≤ a0 + a1 * 4294967296 + a2 * 18446744073709551616) (hl : lessB b0 b1 b2 a0 a1 a2 = true) (w : World) (U0 s0 o0 h0 k0 U1 V1 s1 o1 h1 k1 U2 V2 s2 o2 : Int)
    (e0 : U0 = a0 + 4294967296) (e1 : s0 = U0 - b0) (e2 : o0 = s0 % 4294967296) (e3 : h0 = s0 / 4294967296) (e4 : k0 = 1 - h0) (e5 : U1 = a1 + 4294967296) (e6 : V1 = U1 - b1) (e7 : s1 = V1 - k0) (e8 : o1 = s1 % 4294967296) (e9 : h1 = s1 / 4294967296) (e10 : k1 = 1 - h1) (e11 : U2 = a2 + 4294967296) (e12 : V2 = U2 - b2) (e13 : s2 = V2 - k1) (e14 : o2 = s2 % 4294967296) :
    Calls Tryd.prog 28 #[.agg (bigC (!m) b0 b1 b2 0 0 0), .agg (bigC m a0 a1 a2 0 0 0)] w (Ans (.agg (bigC m o0 o1 o2 0 0 0)) w) := by
  have HL : Hid (∀ W, Calls Tryd.prog 44 #[.agg #[.int .u64 b0, .int .u64 b1, .int .u64 b2, .int .u64 0, .int .u64 0, .int .u64 0], .agg #[.int .u64 a0, .int .u64 a1, .int .u64 a2, .int .u64 0, .int .u64 0, .int .u64 0]] W (Ans (.bool true) W)) := Lib.hid fun W => by rw [← hl]; exact refBig_less b0 b1 b2 a0 a1 a2 W
  clear hl
  have hs2 : s2 / 4294967296 = 1 := by omega
  have u0 : IntKind.u64.wrap (a0 + 4294967296) = U0 := by rw [e0]; exact u64w (by omega) (by omega)
  have u1 : IntKind.u64.wrap (U0 - b0) = s0 := by rw [e1]; exact u64w (by omega) (by omega)
  have u2 : IntKind.u64.wrap s0 = s0 := u64w (by omega) (by omega)
  have u3 : IntKind.u64.wrap (1 - h0) = k0 := by rw [e4]; exact u64w (by omega) (by omega)
  have u4 : IntKind.u64.wrap (a1 + 4294967296) = U1 := by rw [e5]; exact u64w (by omega) (by omega)
  have u5 : IntKind.u64.wrap (U1 - b1) = V1 := by rw [e6]; exact u64w (by omega) (by omega)
  have u6 : IntKind.u64.wrap (V1 - k0) = s1 := by rw [e7]; exact u64w (by omega) (by omega)
  have u7 : IntKind.u64.wrap (1 - h1) = k1 := by rw [e10]; exact u64w (by omega) (by omega)
  have u8 : IntKind.u64.wrap (a2 + 4294967296) = U2 := by rw [e11]; exact u64w (by omega) (by omega)
  have u9 : IntKind.u64.wrap (U2 - b2) = V2 := by rw [e12]; exact u64w (by omega) (by omega)
  have u10 : IntKind.u64.wrap (V2 - k1) = s2 := by rw [e13]; exact u64w (by omega) (by omega)
  have n0 : 0 ≤ s0 := by omega
  have n1 : 0 ≤ s1 := by omega
  have n2 : 0 ≤ s2 := by omega
  clear e0 e1 e4 e5 e6 e7 e10 e11 e12 e13 ha hb hge
  replace e2 := e2.symm
  replace e3 := e3.symm
  replace e8 := e8.symm
  replace e9 := e9.symm
  replace e14 := e14.symm
  obtain ⟨mx, hmx⟩ : ∃ mx, Hid (mx = !m) := ⟨_, Lib.hid rfl⟩
  rw [← hmx.out]
  have HM : (mx == m) = false := by rw [hmx.out]; cases m <;> rfl
  clear hmx
  have HZ := Lib.hid (AT.new w mx b0 b1 b2 m a0 a1 a2 false)
  unfold bigC
  go_enter Tryd.func28, Tryd.ntmps28
  go_wp2_with (go_at_call 44; (with_reducible refine (HL.out _).mono ?_); rintro e w2 ⟨rfl, hbl⟩; have HZ := Lib.hid (HZ.out.next hbl); obtain ⟨a0', a1', a2', a3', a4', a5', a6'⟩ := box7 HZ.out.a; obtain ⟨b0', b1', b2', b3', b4', b5', b6'⟩ := box7 HZ.out.b; obtain ⟨fo0, fo1, fo2, fo3, fo4, fo5, fo6⟩ := fro7 HZ.out.o; obtain ⟨q0, q1, q2, q3, q4, q5, q6⟩ := box7 HZ.out.o; obtain ⟨fa0, fa1, fa2, fa3, fa4, fa5, fa6⟩ := fro7 HZ.out.a; obtain ⟨fb0, fb1, fb2, fb3, fb4, fb5, fb6⟩ := fro7 HZ.out.b; have HLT : w.heap.size + 1 + 1 + 1 < w2.heap.size := HZ.out.lt; have HN1 : ¬ w2.heap.size = w.heap.size := (by omega); have HN2 : ¬ w.heap.size = w2.heap.size := (by omega); have HN3 : ¬ w2.heap.size = w.heap.size + 1 := (by omega); have HN4 : ¬ w.heap.size + 1 = w2.heap.size := (by omega); clear HLT; have HY := Lib.hid (HZ.out.next (alloc_below w2 (.cells #[.bool mx, .int .u64 b0, .int .u64 b1, .int .u64 b2, .int .u64 0, .int .u64 0, .int .u64 0] 58))); obtain ⟨a0'', a1'', a2'', a3'', a4'', a5'', a6''⟩ := box7 HY.out.a; obtain ⟨b0'', b1'', b2'', b3'', b4'', b5'', b6''⟩ := box7 HY.out.b; obtain ⟨go0, go1, go2, go3, go4, go5, go6⟩ := fro7 HY.out.o; obtain ⟨p0, p1, p2, p3, p4, p5, p6⟩ := box7 HY.out.o; obtain ⟨ga0, ga1, ga2, ga3, ga4, ga5, ga6⟩ := fro7 HY.out.a; obtain ⟨gb0, gb1, gb2, gb3, gb4, gb5, gb6⟩ := fro7 HY.out.b; clear hbl)
  clear a0' a1' a2' a3' a4' a5' a6' b0' b1' b2' b3' b4' b5' b6' fo0 fo1 fo2 fo3 fo4 fo5 fo6 q0 q1 q2 q3 q4 q5 q6 fa0 fa1 fa2 fa3 fa4 fa5 fa6 fb0 fb1 fb2 fb3 fb4 fb5 fb6 a0'' a1'' a2'' a3'' a4'' a5'' a6'' b0'' b1'' b2'' b3'' b4'' b5'' b6'' go0 go1 go2 go3 go4 go5 go6 p0 p1 p2 p3 p4 p5 p6 ga0 ga1 ga2 ga3 ga4 ga5 ga6 gb0 gb1 gb2 gb3 gb4 gb5 gb6 HN1 HN2 HN3 HN4
  refine wp_loop_rounds 7 ?_
  refine at_world (G := fun W => Code.rounds _ _ _ _ _ W) (fun W => AT w W m a0 a1 a2 mx b0 b1 b2 m 0 0 0 0) ?h ?_
  case h => exact HY.out.swap.set0 _
  intro W0 hz
  replace HZ := Lib.hid hz
  clear hz
  obtain ⟨a0', a1', a2', a3', a4', a5', a6'⟩ := box7 HZ.out.a
  obtain ⟨b0', b1', b2', b3', b4', b5', b6'⟩ := box7 HZ.out.b
  obtain ⟨r0, r1, r2, r3, r4, r5, r6⟩ := box7 HZ.out.r
  obtain ⟨q0, q1, q2, q3, q4, q5, q6⟩ := box7 HZ.out.o
  obtain ⟨fo0, fo1, fo2, fo3, fo4, fo5, fo6⟩ := fro7 HZ.out.o
  obtain ⟨fr0, fr1, fr2, fr3, fr4, fr5, fr6⟩ := fro7 HZ.out.r
  rw [rounds_succ]
  (go_wp2_with fail; go_quiet (fail); go_wp2_with fail)
  rw [rounds_succ]
  (go_wp2_with fail; go_quiet (fail); go_wp2_with fail)
  rw [rounds_succ]
  (go_wp2_with fail; go_quiet (fail); go_wp2_with fail)
  clear a0' a1' a2' a3' a4' a5' a6' b0' b1' b2' b3' b4' b5' b6' r0 r1 r2 r3 r4 r5 r6 q0 q1 q2 q3 q4 q5 q6 fo0 fo1 fo2 fo3 fo4 fo5 fo6 fr0 fr1 fr2 fr3 fr4 fr5 fr6
  refine at_world (G := fun W => Code.rounds _ _ _ _ _ W) (fun W => AT w W m a0 a1 a2 mx b0 b1 b2 m o0 o1 o2 0) ?h ?_
  case h => exact (((((HZ.out.drew _).set1 _).drew _).set2 _).drew _).set3 _
  intro W1 hz
  replace HZ := Lib.hid hz
  clear hz
  obtain ⟨a0', a1', a2', a3', a4', a5', a6'⟩ := box7 HZ.out.a
  obtain ⟨b0', b1', b2', b3', b4', b5', b6'⟩ := box7 HZ.out.b
  obtain ⟨r0, r1, r2, r3, r4, r5, r6⟩ := box7 HZ.out.r
  obtain ⟨q0, q1, q2, q3, q4, q5, q6⟩ := box7 HZ.out.o
  obtain ⟨fo0, fo1, fo2, fo3, fo4, fo5, fo6⟩ := fro7 HZ.out.o
  obtain ⟨fr0, fr1, fr2, fr3, fr4, fr5, fr6⟩ := fro7 HZ.out.r
  rw [rounds_succ]
  (go_wp2_with fail; go_quiet (fail); go_wp2_with fail)
  rw [rounds_succ]
  (go_wp2_with fail; go_quiet (fail); go_wp2_with fail)
  rw [rounds_succ]
  (go_wp2_with fail; go_quiet (fail); go_wp2_with fail)
  clear a0' a1' a2' a3' a4' a5' a6' b0' b1' b2' b3' b4' b5' b6' r0 r1 r2 r3 r4 r5 r6 q0 q1 q2 q3 q4 q5 q6 fo0 fo1 fo2 fo3 fo4 fo5 fo6 fr0 fr1 fr2 fr3 fr4 fr5 fr6
  refine at_world (G := fun W => Code.rounds _ _ _ _ _ W) (fun W => AT w W m a0 a1 a2 mx b0 b1 b2 m o0 o1 o2 0) ?h ?_
  case h => exact (((((HZ.out.drew _).set4 _).drew _).set5).drew _).set6
  intro W2 hz
  replace HZ := Lib.hid hz
  clear hz
  obtain ⟨a0', a1', a2', a3', a4', a5', a6'⟩ := box7 HZ.out.a
  obtain ⟨b0', b1', b2', b3', b4', b5', b6'⟩ := box7 HZ.out.b
  obtain ⟨r0, r1, r2, r3, r4, r5, r6⟩ := box7 HZ.out.r
  obtain ⟨q0, q1, q2, q3, q4, q5, q6⟩ := box7 HZ.out.o
  obtain ⟨fo0, fo1, fo2, fo3, fo4, fo5, fo6⟩ := fro7 HZ.out.o
  obtain ⟨fr0, fr1, fr2, fr3, fr4, fr5, fr6⟩ := fro7 HZ.out.r
  rw [rounds_succ]
  go_wp2_with fail
  exact bodyPost_ret (v := .agg (bigC m o0 o1 o2 0 0 0)) (by simp [results, Tryd.results28, go_sem, bigC, r0, r1, r2, r3, r4, r5, r6]) rfl ⟨rfl, put_big7 HZ.out.bel (by omega) _ _ _ _ _ _ _⟩
end Go.Proofs.YtjfbhajaddgmpaaDoor
