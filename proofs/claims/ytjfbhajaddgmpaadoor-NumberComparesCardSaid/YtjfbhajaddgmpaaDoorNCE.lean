/- The document's numbers of any size: Add. -/
import Derived.Test.YtjfbhajaddgmpaaDoorNCD
namespace Go.Proofs.YtjfbhajaddgmpaaDoor
open Go.RowKit

/-- Add's four blocks: the two, the answer's, and the sum -/
structure AT (w W : World) (m : Bool) (a0 a1 a2 : Int) (m2 : Bool) (b0 b1 b2 : Int) (mo : Bool) (d0 d1 d2 d3 : Int) : Prop where
  a : W.heap[w.heap.size]? = some (.cells (bigC m a0 a1 a2 0 0 0) 58 (0, 0))
  b : W.heap[w.heap.size + 1]? = some (.cells (bigC m2 b0 b1 b2 0 0 0) 58 (0, 0))
  r : W.heap[w.heap.size + 1 + 1]? = some (.cells (bigC false 0 0 0 0 0 0) 58 (0, 0))
  o : W.heap[w.heap.size + 1 + 1 + 1]? = some (.cells (bigC mo d0 d1 d2 d3 0 0) 58 (0, 0))
  bel : Below w.heap.size w W
  lt : w.heap.size + 1 + 1 + 1 < W.heap.size
theorem AT.new (w : World) (m : Bool) (a0 a1 a2 : Int) (m2 : Bool) (b0 b1 b2 : Int) (mo : Bool) : AT w ((((w.alloc (.cells #[.bool m, .int .u64 a0, .int .u64 a1, .int .u64 a2, .int .u64 0, .int .u64 0, .int .u64 0] 58)).alloc (.cells #[.bool m2, .int .u64 b0, .int .u64 b1, .int .u64 b2, .int .u64 0, .int .u64 0, .int .u64 0] 58)).alloc (.cells #[.bool false, .int .u64 0, .int .u64 0, .int .u64 0, .int .u64 0, .int .u64 0, .int .u64 0] 58)).alloc (.cells #[.bool mo, .int .u64 0, .int .u64 0, .int .u64 0, .int .u64 0, .int .u64 0, .int .u64 0] 58)) m a0 a1 a2 m2 b0 b1 b2 mo 0 0 0 0 := by
  have e : ∀ (v : World) o, (v.alloc o).heap.size = v.heap.size + 1 := fun v o => by simp
  refine ⟨?_, ?_, ?_, ?_, ?_, by rw [e, e, e, e]; omega⟩
  · rw [heap_at, if_neg (by rw [e, e, e]; omega), heap_at, if_neg (by rw [e, e]; omega), heap_at, if_neg (by rw [e]; omega), heap_at, if_pos rfl]; rfl
  · rw [heap_at, if_neg (by rw [e, e, e]; omega), heap_at, if_neg (by rw [e, e]; omega), heap_at, if_pos (by rw [e])]; rfl
  · rw [heap_at, if_neg (by rw [e, e, e]; omega), heap_at, if_pos (by rw [e, e])]; rfl
  · rw [heap_at, if_pos (by rw [e, e, e])]; rfl
  · exact ((((alloc_below w _).trans ((alloc_below _ _).mono (by rw [e]; omega))).trans ((alloc_below _ _).mono (by rw [e, e]; omega))).trans ((alloc_below _ _).mono (by rw [e, e, e]; omega)))
theorem AT.drew {w W : World} {m : Bool} {a0 a1 a2 : Int} {m2 : Bool} {b0 b1 b2 : Int} {mo : Bool} {d0 d1 d2 d3 : Int} (h : AT w W m a0 a1 a2 m2 b0 b1 b2 mo d0 d1 d2 d3) (n : Nat) : AT w (W.drewN n) m a0 a1 a2 m2 b0 b1 b2 mo d0 d1 d2 d3 := ⟨h.a, h.b, h.r, h.o, h.bel.trans ((drewN_below W n).mono h.bel.size), h.lt⟩
theorem AT.next {w W W2 : World} {m : Bool} {a0 a1 a2 : Int} {m2 : Bool} {b0 b1 b2 : Int} {mo : Bool} {d0 d1 d2 d3 : Int} (h : AT w W m a0 a1 a2 m2 b0 b1 b2 mo d0 d1 d2 d3) (hb : Below W.heap.size W W2) : AT w W2 m a0 a1 a2 m2 b0 b1 b2 mo d0 d1 d2 d3 :=
  ⟨(hb.block _ (by have := h.lt; omega)).trans h.a, (hb.block _ (by have := h.lt; omega)).trans h.b, (hb.block _ (by have := h.lt; omega)).trans h.r, (hb.block _ h.lt).trans h.o, h.bel.trans (hb.mono h.bel.size), Nat.lt_of_lt_of_le h.lt hb.size⟩
theorem size_setCell (w : World) (a : Addr) (u : Value) : (w.setCell a u).heap.size = w.heap.size := by simp [World.setCell]
theorem AT.set0 {w W : World} {m : Bool} {a0 a1 a2 : Int} {m2 : Bool} {b0 b1 b2 : Int} {mo : Bool} {d0 d1 d2 d3 : Int} (h : AT w W m a0 a1 a2 m2 b0 b1 b2 mo d0 d1 d2 d3) (x : Bool) : AT w (W.setCell ⟨w.heap.size + 1 + 1 + 1, 0, none⟩ (.bool x)) m a0 a1 a2 m2 b0 b1 b2 x d0 d1 d2 d3 :=
  ⟨(heap_setCell_ne (by omega) _ _).trans h.a, (heap_setCell_ne (by omega) _ _).trans h.b, (heap_setCell_ne (by omega) _ _).trans h.r, by rw [heap_setCell_at h.o]; simp [bigC], h.bel.setCell (p := ⟨w.heap.size + 1 + 1 + 1, 0, none⟩) (by show w.heap.size ≤ w.heap.size + 1 + 1 + 1; omega) _, by rw [size_setCell]; exact h.lt⟩
theorem AT.set1 {w W : World} {m : Bool} {a0 a1 a2 : Int} {m2 : Bool} {b0 b1 b2 : Int} {mo : Bool} {d0 d1 d2 d3 : Int} (h : AT w W m a0 a1 a2 m2 b0 b1 b2 mo d0 d1 d2 d3) (x : Int) : AT w (W.setCell ⟨w.heap.size + 1 + 1 + 1, 1, none⟩ (.int .u64 x)) m a0 a1 a2 m2 b0 b1 b2 mo x d1 d2 d3 :=
  ⟨(heap_setCell_ne (by omega) _ _).trans h.a, (heap_setCell_ne (by omega) _ _).trans h.b, (heap_setCell_ne (by omega) _ _).trans h.r, by rw [heap_setCell_at h.o]; simp [bigC], h.bel.setCell (p := ⟨w.heap.size + 1 + 1 + 1, 1, none⟩) (by show w.heap.size ≤ w.heap.size + 1 + 1 + 1; omega) _, by rw [size_setCell]; exact h.lt⟩
theorem AT.set2 {w W : World} {m : Bool} {a0 a1 a2 : Int} {m2 : Bool} {b0 b1 b2 : Int} {mo : Bool} {d0 d1 d2 d3 : Int} (h : AT w W m a0 a1 a2 m2 b0 b1 b2 mo d0 d1 d2 d3) (x : Int) : AT w (W.setCell ⟨w.heap.size + 1 + 1 + 1, 2, none⟩ (.int .u64 x)) m a0 a1 a2 m2 b0 b1 b2 mo d0 x d2 d3 :=
  ⟨(heap_setCell_ne (by omega) _ _).trans h.a, (heap_setCell_ne (by omega) _ _).trans h.b, (heap_setCell_ne (by omega) _ _).trans h.r, by rw [heap_setCell_at h.o]; simp [bigC], h.bel.setCell (p := ⟨w.heap.size + 1 + 1 + 1, 2, none⟩) (by show w.heap.size ≤ w.heap.size + 1 + 1 + 1; omega) _, by rw [size_setCell]; exact h.lt⟩
theorem AT.set3 {w W : World} {m : Bool} {a0 a1 a2 : Int} {m2 : Bool} {b0 b1 b2 : Int} {mo : Bool} {d0 d1 d2 d3 : Int} (h : AT w W m a0 a1 a2 m2 b0 b1 b2 mo d0 d1 d2 d3) (x : Int) : AT w (W.setCell ⟨w.heap.size + 1 + 1 + 1, 3, none⟩ (.int .u64 x)) m a0 a1 a2 m2 b0 b1 b2 mo d0 d1 x d3 :=
  ⟨(heap_setCell_ne (by omega) _ _).trans h.a, (heap_setCell_ne (by omega) _ _).trans h.b, (heap_setCell_ne (by omega) _ _).trans h.r, by rw [heap_setCell_at h.o]; simp [bigC], h.bel.setCell (p := ⟨w.heap.size + 1 + 1 + 1, 3, none⟩) (by show w.heap.size ≤ w.heap.size + 1 + 1 + 1; omega) _, by rw [size_setCell]; exact h.lt⟩
theorem AT.set4 {w W : World} {m : Bool} {a0 a1 a2 : Int} {m2 : Bool} {b0 b1 b2 : Int} {mo : Bool} {d0 d1 d2 d3 : Int} (h : AT w W m a0 a1 a2 m2 b0 b1 b2 mo d0 d1 d2 d3) (x : Int) : AT w (W.setCell ⟨w.heap.size + 1 + 1 + 1, 4, none⟩ (.int .u64 x)) m a0 a1 a2 m2 b0 b1 b2 mo d0 d1 d2 x :=
  ⟨(heap_setCell_ne (by omega) _ _).trans h.a, (heap_setCell_ne (by omega) _ _).trans h.b, (heap_setCell_ne (by omega) _ _).trans h.r, by rw [heap_setCell_at h.o]; simp [bigC], h.bel.setCell (p := ⟨w.heap.size + 1 + 1 + 1, 4, none⟩) (by show w.heap.size ≤ w.heap.size + 1 + 1 + 1; omega) _, by rw [size_setCell]; exact h.lt⟩
theorem AT.set5 {w W : World} {m : Bool} {a0 a1 a2 : Int} {m2 : Bool} {b0 b1 b2 : Int} {mo : Bool} {d0 d1 d2 d3 : Int} (h : AT w W m a0 a1 a2 m2 b0 b1 b2 mo d0 d1 d2 d3) : AT w (W.setCell ⟨w.heap.size + 1 + 1 + 1, 5, none⟩ (.int .u64 0)) m a0 a1 a2 m2 b0 b1 b2 mo d0 d1 d2 d3 :=
  ⟨(heap_setCell_ne (by omega) _ _).trans h.a, (heap_setCell_ne (by omega) _ _).trans h.b, (heap_setCell_ne (by omega) _ _).trans h.r, by rw [heap_setCell_at h.o]; simp [bigC], h.bel.setCell (p := ⟨w.heap.size + 1 + 1 + 1, 5, none⟩) (by show w.heap.size ≤ w.heap.size + 1 + 1 + 1; omega) _, by rw [size_setCell]; exact h.lt⟩
theorem AT.set6 {w W : World} {m : Bool} {a0 a1 a2 : Int} {m2 : Bool} {b0 b1 b2 : Int} {mo : Bool} {d0 d1 d2 d3 : Int} (h : AT w W m a0 a1 a2 m2 b0 b1 b2 mo d0 d1 d2 d3) : AT w (W.setCell ⟨w.heap.size + 1 + 1 + 1, 6, none⟩ (.int .u64 0)) m a0 a1 a2 m2 b0 b1 b2 mo d0 d1 d2 d3 :=
  ⟨(heap_setCell_ne (by omega) _ _).trans h.a, (heap_setCell_ne (by omega) _ _).trans h.b, (heap_setCell_ne (by omega) _ _).trans h.r, by rw [heap_setCell_at h.o]; simp [bigC], h.bel.setCell (p := ⟨w.heap.size + 1 + 1 + 1, 6, none⟩) (by show w.heap.size ≤ w.heap.size + 1 + 1 + 1; omega) _, by rw [size_setCell]; exact h.lt⟩
set_option maxRecDepth 100000 in
set_option maxHeartbeats 16000000 in
theorem refBig_addSame (m : Bool) (a0 a1 a2 b0 b1 b2 : Int) (ha : 0 ≤ a0 ∧ a0 < 4294967296 ∧ 0 ≤ a1 ∧ a1 < 4294967296 ∧ 0 ≤ a2 ∧ a2 < 1000000) (hb : 0 ≤ b0 ∧ b0 < 4294967296 ∧ 0 ≤ b1 ∧ b1 < 4294967296 ∧ 0 ≤ b2 ∧ b2 < 1000000) (w : World) (s0 o0 k0 s1 o1 k1 s2 : Int)
    (e0 : s0 = a0 + b0) (f0 : o0 = s0 % 4294967296) (g0 : k0 = s0 / 4294967296) (e1 : s1 = a1 + b1 + k0) (f1 : o1 = s1 % 4294967296) (g1 : k1 = s1 / 4294967296) (e2 : s2 = a2 + b2 + k1) :
    Calls Tryd.prog 28 #[.agg (bigC m a0 a1 a2 0 0 0), .agg (bigC m b0 b1 b2 0 0 0)] w (Ans (.agg (bigC m o0 o1 s2 0 0 0)) w) := by
  obtain ⟨t1, ht1⟩ : ∃ t1 : Int, Hid (t1 = a1 + b1) := ⟨_, Lib.hid rfl⟩
  obtain ⟨t2, ht2⟩ : ∃ t2 : Int, Hid (t2 = a2 + b2) := ⟨_, Lib.hid rfl⟩
  have u0 : IntKind.u64.wrap (a0 + b0) = s0 := by rw [e0]; exact u64w (by omega) (by omega)
  have v0 : IntKind.u64.wrap s0 = s0 := u64w (by omega) (by omega)
  have u1 : IntKind.u64.wrap (a1 + b1) = t1 := by rw [ht1.out]; exact u64w (by omega) (by omega)
  have v1 : IntKind.u64.wrap (t1 + k0) = s1 := by rw [e1, ht1.out]; exact u64w (by omega) (by omega)
  have u2 : IntKind.u64.wrap (a2 + b2) = t2 := by rw [ht2.out]; exact u64w (by omega) (by omega)
  have v2 : IntKind.u64.wrap (t2 + k1) = s2 := by rw [e2, ht2.out]; exact u64w (by omega) (by omega)
  have x2 : s2 % 4294967296 = s2 := by omega
  have y2 : s2 / 4294967296 = 0 := by omega
  have n0 : 0 ≤ s0 := by omega
  have n1 : 0 ≤ s1 := by omega
  have n2 : 0 ≤ s2 := by omega
  replace f0 := f0.symm
  replace f1 := f1.symm
  replace g0 := g0.symm
  replace g1 := g1.symm
  clear e0 e1 e2 ha hb ht1 ht2
  have HZ := Lib.hid (AT.new w m a0 a1 a2 m b0 b1 b2 m)
  unfold bigC
  go_enter Tryd.func28, Tryd.ntmps28
  go_wp2_with fail
  refine wp_loop_rounds 7 ?_
  refine at_world (G := fun W => Code.rounds _ _ _ _ _ W) (fun W => AT w W m a0 a1 a2 m b0 b1 b2 m 0 0 0 0) ?h ?_
  case h => exact HZ.out
  intro W0 hz
  replace HZ := Lib.hid hz
  clear hz
  obtain ⟨a0', a1', a2', a3', a4', a5', a6'⟩ := box7 HZ.out.a
  obtain ⟨b0', b1', b2', b3', b4', b5', b6'⟩ := box7 HZ.out.b
  obtain ⟨r0, r1, r2, r3, r4, r5, r6⟩ := box7 HZ.out.r
  obtain ⟨q0, q1, q2, q3, q4, q5, q6⟩ := box7 HZ.out.o
  obtain ⟨fo0, fo1, fo2, fo3, fo4, fo5, fo6⟩ := fro7 HZ.out.o
  obtain ⟨fr0, fr1, fr2, fr3, fr4, fr5, fr6⟩ := fro7 HZ.out.r
  rw [rounds_succ]
  (go_wp2_with fail; go_quiet (fail); go_wp2_with fail)
  rw [rounds_succ]
  (go_wp2_with fail; go_quiet (fail); go_wp2_with fail)
  rw [rounds_succ]
  (go_wp2_with fail; go_quiet (fail); go_wp2_with fail)
  clear a0' a1' a2' a3' a4' a5' a6' b0' b1' b2' b3' b4' b5' b6' r0 r1 r2 r3 r4 r5 r6 q0 q1 q2 q3 q4 q5 q6 fo0 fo1 fo2 fo3 fo4 fo5 fo6 fr0 fr1 fr2 fr3 fr4 fr5 fr6
  refine at_world (G := fun W => Code.rounds _ _ _ _ _ W) (fun W => AT w W m a0 a1 a2 m b0 b1 b2 m o0 o1 s2 0) ?h ?_
  case h => exact (((((HZ.out.drew _).set1 _).drew _).set2 _).drew _).set3 _
  intro W1 hz
  replace HZ := Lib.hid hz
  clear hz
  obtain ⟨a0', a1', a2', a3', a4', a5', a6'⟩ := box7 HZ.out.a
  obtain ⟨b0', b1', b2', b3', b4', b5', b6'⟩ := box7 HZ.out.b
  obtain ⟨r0, r1, r2, r3, r4, r5, r6⟩ := box7 HZ.out.r
  obtain ⟨q0, q1, q2, q3, q4, q5, q6⟩ := box7 HZ.out.o
  obtain ⟨fo0, fo1, fo2, fo3, fo4, fo5, fo6⟩ := fro7 HZ.out.o
  obtain ⟨fr0, fr1, fr2, fr3, fr4, fr5, fr6⟩ := fro7 HZ.out.r
  rw [rounds_succ]
  (go_wp2_with fail; go_quiet (fail); go_wp2_with fail)
  rw [rounds_succ]
  (go_wp2_with fail; go_quiet (fail); go_wp2_with fail)
  rw [rounds_succ]
  (go_wp2_with fail; go_quiet (fail); go_wp2_with fail)
  clear a0' a1' a2' a3' a4' a5' a6' b0' b1' b2' b3' b4' b5' b6' r0 r1 r2 r3 r4 r5 r6 q0 q1 q2 q3 q4 q5 q6 fo0 fo1 fo2 fo3 fo4 fo5 fo6 fr0 fr1 fr2 fr3 fr4 fr5 fr6
  refine at_world (G := fun W => Code.rounds _ _ _ _ _ W) (fun W => AT w W m a0 a1 a2 m b0 b1 b2 m o0 o1 s2 0) ?h ?_
  case h => exact (((((HZ.out.drew _).set4 _).drew _).set5).drew _).set6
  intro W2 hz
  replace HZ := Lib.hid hz
  clear hz
  obtain ⟨a0', a1', a2', a3', a4', a5', a6'⟩ := box7 HZ.out.a
  obtain ⟨b0', b1', b2', b3', b4', b5', b6'⟩ := box7 HZ.out.b
  obtain ⟨r0, r1, r2, r3, r4, r5, r6⟩ := box7 HZ.out.r
  obtain ⟨q0, q1, q2, q3, q4, q5, q6⟩ := box7 HZ.out.o
  obtain ⟨fo0, fo1, fo2, fo3, fo4, fo5, fo6⟩ := fro7 HZ.out.o
  obtain ⟨fr0, fr1, fr2, fr3, fr4, fr5, fr6⟩ := fro7 HZ.out.r
  rw [rounds_succ]
  go_wp2_with fail
  exact bodyPost_ret (v := .agg (bigC m o0 o1 s2 0 0 0)) (by simp [results, Tryd.results28, go_sem, bigC, r0, r1, r2, r3, r4, r5, r6]) rfl ⟨rfl, put_big7 HZ.out.bel (by omega) _ _ _ _ _ _ _⟩
end Go.Proofs.YtjfbhajaddgmpaaDoor
