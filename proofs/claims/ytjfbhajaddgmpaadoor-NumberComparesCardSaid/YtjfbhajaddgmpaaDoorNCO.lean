/- The document's Compare at any values. -/
import Derived.Test.YtjfbhajaddgmpaaDoorNCM
namespace Go.Proofs.YtjfbhajaddgmpaaDoor
open Go.RowKit

set_option maxRecDepth 100000 in
theorem refOf_yes (w : World) : Calls Tryd.prog 20 #[.int .i64 1] w (Ans (.agg #[.int .i64 1, .int .i64 1, .string ⟨#[]⟩]) w) := by
  go_enter Tryd.func20, Tryd.ntmps20
  go_wp2
  exact bodyPost_ret (by simp [results, Tryd.results20, go_sem]) rfl ⟨rfl, alloc_below _ _⟩
set_option maxRecDepth 100000 in
theorem refOf_no (w : World) : Calls Tryd.prog 20 #[.int .i64 0] w (Ans (.agg #[.int .i64 1, .int .i64 0, .string ⟨#[]⟩]) w) := by
  go_enter Tryd.func20, Tryd.ntmps20
  go_wp2
  exact bodyPost_ret (by simp [results, Tryd.results20, go_sem]) rfl ⟨rfl, alloc_below _ _⟩
/-- two values, an answer and a fault in their boxes -/
structure GC (w W : World) (k n : Int) (s : ByteArray) (j m : Int) (t : ByteArray) : Prop where
  a : W.heap[w.heap.size]? = some (.cells #[.int .i64 k, .int .i64 n, .string s] 25 (0, 0))
  b : W.heap[w.heap.size + 1]? = some (.cells #[.int .i64 j, .int .i64 m, .string t] 25 (0, 0))
  r : W.heap[w.heap.size + 1 + 1]? = some (.cells #[.int .i64 0, .int .i64 0, .string ⟨#[]⟩] 25 (0, 0))
  f : W.heap[w.heap.size + 1 + 1 + 1]? = some (.cells #[.int .i64 0, .int .i64 0] 33 (0, 0))
  bel : Below w.heap.size w W
  lt : w.heap.size + 1 + 1 + 1 < W.heap.size
theorem GC.next {w W W2 : World} {k n j m : Int} {s t : ByteArray} (h : GC w W k n s j m t) (hb : Below W.heap.size W W2) : GC w W2 k n s j m t :=
  ⟨(hb.block _ (by have := h.lt; omega)).trans h.a, (hb.block _ (by have := h.lt; omega)).trans h.b, (hb.block _ (by have := h.lt; omega)).trans h.r, (hb.block _ h.lt).trans h.f, h.bel.trans (hb.mono h.bel.size), Nat.lt_of_lt_of_le h.lt hb.size⟩
theorem GC.new (w : World) (k n : Int) (s : ByteArray) (j m : Int) (t : ByteArray) : GC w ((((w.alloc (.cells #[.int .i64 k, .int .i64 n, .string s] 25)).alloc (.cells #[.int .i64 j, .int .i64 m, .string t] 25)).alloc (.cells #[.int .i64 0, .int .i64 0, .string ⟨#[]⟩] 25)).alloc (.cells #[.int .i64 0, .int .i64 0] 33)) k n s j m t := by
  have e : ∀ (v : World) o, (v.alloc o).heap.size = v.heap.size + 1 := fun v o => by simp
  refine ⟨?_, ?_, ?_, ?_, ?_, by rw [e, e, e, e]; omega⟩
  · rw [heap_at, if_neg (by rw [e, e, e]; omega), heap_at, if_neg (by rw [e, e]; omega), heap_at, if_neg (by rw [e]; omega), heap_at, if_pos rfl]
  · rw [heap_at, if_neg (by rw [e, e, e]; omega), heap_at, if_neg (by rw [e, e]; omega), heap_at, if_pos (by rw [e])]
  · rw [heap_at, if_neg (by rw [e, e, e]; omega), heap_at, if_pos (by rw [e, e])]
  · rw [heap_at, if_pos (by rw [e, e, e])]
  · exact (((alloc_below w _).trans ((alloc_below _ _).mono (by rw [e]; omega))).trans ((alloc_below _ _).mono (by rw [e, e]; omega))).trans ((alloc_below _ _).mono (by rw [e, e, e]; omega))
theorem GC.drew {w W : World} {k n j m : Int} {s t : ByteArray} (h : GC w W k n s j m t) : GC w W.drew k n s j m t := h.next (drew_below _)
theorem alloc4_below (w : World) (a b c d : Obj) : Below w.heap.size w ((((w.alloc a).alloc b).alloc c).alloc d) := by
  have e : ∀ (v : World) o, (v.alloc o).heap.size = v.heap.size + 1 := fun v o => by simp
  exact (((alloc_below w _).trans ((alloc_below _ _).mono (by rw [e]; omega))).trans ((alloc_below _ _).mono (by rw [e, e]; omega))).trans ((alloc_below _ _).mono (by rw [e, e, e]; omega))
theorem set5_bel {w w3 : World} {B b c : Nat} (h : Below B w w3) (hb : B ≤ b) (hc : B ≤ c) (x y z u v : Value) : Below B w (((((w3.setCell ⟨b, 0, none⟩ x).setCell ⟨b, 1, none⟩ y).setCell ⟨b, 2, none⟩ z).setCell ⟨c, 0, none⟩ u).setCell ⟨c, 1, none⟩ v) :=
  set2_bel (set3_below0 h hb x y z) hc u v
set_option maxRecDepth 100000 in
set_option maxHeartbeats 8000000 in
theorem refC_lo (op k n j m : Int) (s t : ByteArray) (h8 : op < 8) (w : World) :
    Calls Tryd.prog 6 #[.int .i64 op, .agg #[.int .i64 k, .int .i64 n, .string s], .agg #[.int .i64 j, .int .i64 m, .string t]] w (Ans (.tuple #[.agg #[.int .i64 0, .int .i64 0, .string ⟨#[]⟩], .agg #[.int .i64 1, .int .i64 0]]) w) := by
  all_goals
    go_enter Tryd.func6, Tryd.ntmps6
    go_wp2_with fail
    exact bodyPost_ret (v := .tuple #[.agg #[.int .i64 0, .int .i64 0, .string ⟨#[]⟩], .agg #[.int .i64 1, .int .i64 0]]) (by simp [results, Tryd.results6, go_sem]) rfl ⟨rfl, alloc4_below _ _ _ _ _⟩
set_option maxRecDepth 100000 in
set_option maxHeartbeats 8000000 in
theorem refC_hi (op k n j m : Int) (s t : ByteArray) (h8 : ¬ op < 8) (h13 : 13 < op) (w : World) :
    Calls Tryd.prog 6 #[.int .i64 op, .agg #[.int .i64 k, .int .i64 n, .string s], .agg #[.int .i64 j, .int .i64 m, .string t]] w (Ans (.tuple #[.agg #[.int .i64 0, .int .i64 0, .string ⟨#[]⟩], .agg #[.int .i64 1, .int .i64 0]]) w) := by
  all_goals
    go_enter Tryd.func6, Tryd.ntmps6
    go_wp2_with fail
    exact bodyPost_ret (v := .tuple #[.agg #[.int .i64 0, .int .i64 0, .string ⟨#[]⟩], .agg #[.int .i64 1, .int .i64 0]]) (by simp [results, Tryd.results6, go_sem]) rfl ⟨rfl, alloc4_below _ _ _ _ _⟩
set_option maxRecDepth 100000 in
set_option maxHeartbeats 8000000 in
theorem refC_bad0 (op k n j m : Int) (s t : ByteArray) (b : Bool) (h8 : ¬ op < 8) (h13 : ¬ 13 < op) (RA : ∀ w, Calls Tryd.prog 18 #[.agg #[.int .i64 k, .int .i64 n, .string s]] w (Ans (.bool false) w)) (RB : ∀ w, Calls Tryd.prog 18 #[.agg #[.int .i64 j, .int .i64 m, .string t]] w (Ans (.bool b) w)) (w : World) :
    Calls Tryd.prog 6 #[.int .i64 op, .agg #[.int .i64 k, .int .i64 n, .string s], .agg #[.int .i64 j, .int .i64 m, .string t]] w (Ans (.tuple #[.agg #[.int .i64 0, .int .i64 0, .string ⟨#[]⟩], .agg #[.int .i64 22, .int .i64 0]]) w) := by
  have HX := Lib.hid (GC.new w k n s j m t)
  replace RA := Lib.hid RA
  replace RB := Lib.hid RB
  all_goals
    have HX := HX
    obtain ⟨a0, a1, a2⟩ := box3 HX.out.a
    obtain ⟨b0, b1, b2⟩ := box3 HX.out.b
    obtain ⟨r0, r1, r2⟩ := box3 HX.out.r
    have z0 := frozen3 HX.out.r 0
    have z1 := frozen3 HX.out.r 1
    have z2 := frozen3 HX.out.r 2
    obtain ⟨f0, f1⟩ := box2 HX.out.f
    have y0 := frozen3 HX.out.f 0
    have y1 := frozen3 HX.out.f 1
    go_enter Tryd.func6, Tryd.ntmps6
    go_wp2_with (first
      | (go_at_call 18; first | ((with_reducible refine (RA.out _).mono ?_); rintro e w2 ⟨rfl, hb⟩) | ((with_reducible refine (RB.out _).mono ?_); rintro e w2 ⟨rfl, hb⟩)
         have HX := Lib.hid (HX.out.next hb)
         obtain ⟨a0, a1, a2⟩ := box3 HX.out.a
         obtain ⟨b0, b1, b2⟩ := box3 HX.out.b
         obtain ⟨r0, r1, r2⟩ := box3 HX.out.r
         have z0 := frozen3 HX.out.r 0
         have z1 := frozen3 HX.out.r 1
         have z2 := frozen3 HX.out.r 2
         obtain ⟨f0, f1⟩ := box2 HX.out.f
         have y0 := frozen3 HX.out.f 0
         have y1 := frozen3 HX.out.f 1
         clear hb))
    exact bodyPost_ret (v := .tuple #[.agg #[.int .i64 0, .int .i64 0, .string ⟨#[]⟩], .agg #[.int .i64 22, .int .i64 0]]) (by simp [results, Tryd.results6, go_sem, r0, r1, r2, f0, f1]) rfl ⟨rfl, set5_bel HX.out.bel (by omega) (by omega) _ _ _ _ _⟩
set_option maxRecDepth 100000 in
set_option maxHeartbeats 8000000 in
theorem refC_bad1 (op k n j m : Int) (s t : ByteArray) (h8 : ¬ op < 8) (h13 : ¬ 13 < op) (RA : ∀ w, Calls Tryd.prog 18 #[.agg #[.int .i64 k, .int .i64 n, .string s]] w (Ans (.bool true) w)) (RB : ∀ w, Calls Tryd.prog 18 #[.agg #[.int .i64 j, .int .i64 m, .string t]] w (Ans (.bool false) w)) (w : World) :
    Calls Tryd.prog 6 #[.int .i64 op, .agg #[.int .i64 k, .int .i64 n, .string s], .agg #[.int .i64 j, .int .i64 m, .string t]] w (Ans (.tuple #[.agg #[.int .i64 0, .int .i64 0, .string ⟨#[]⟩], .agg #[.int .i64 22, .int .i64 1]]) w) := by
  have HX := Lib.hid (GC.new w k n s j m t)
  replace RA := Lib.hid RA
  replace RB := Lib.hid RB
  all_goals
    have HX := HX
    obtain ⟨a0, a1, a2⟩ := box3 HX.out.a
    obtain ⟨b0, b1, b2⟩ := box3 HX.out.b
    obtain ⟨r0, r1, r2⟩ := box3 HX.out.r
    have z0 := frozen3 HX.out.r 0
    have z1 := frozen3 HX.out.r 1
    have z2 := frozen3 HX.out.r 2
    obtain ⟨f0, f1⟩ := box2 HX.out.f
    have y0 := frozen3 HX.out.f 0
    have y1 := frozen3 HX.out.f 1
    go_enter Tryd.func6, Tryd.ntmps6
    go_wp2_with (first
      | (go_at_call 18; first | ((with_reducible refine (RA.out _).mono ?_); rintro e w2 ⟨rfl, hb⟩) | ((with_reducible refine (RB.out _).mono ?_); rintro e w2 ⟨rfl, hb⟩)
         have HX := Lib.hid (HX.out.next hb)
         obtain ⟨a0, a1, a2⟩ := box3 HX.out.a
         obtain ⟨b0, b1, b2⟩ := box3 HX.out.b
         obtain ⟨r0, r1, r2⟩ := box3 HX.out.r
         have z0 := frozen3 HX.out.r 0
         have z1 := frozen3 HX.out.r 1
         have z2 := frozen3 HX.out.r 2
         obtain ⟨f0, f1⟩ := box2 HX.out.f
         have y0 := frozen3 HX.out.f 0
         have y1 := frozen3 HX.out.f 1
         clear hb))
    exact bodyPost_ret (v := .tuple #[.agg #[.int .i64 0, .int .i64 0, .string ⟨#[]⟩], .agg #[.int .i64 22, .int .i64 1]]) (by simp [results, Tryd.results6, go_sem, r0, r1, r2, f0, f1]) rfl ⟨rfl, set5_bel HX.out.bel (by omega) (by omega) _ _ _ _ _⟩
set_option maxRecDepth 100000 in
set_option maxHeartbeats 8000000 in
theorem refC_nul0 (op k n j m : Int) (s t : ByteArray) (h8 : ¬ op < 8) (h13 : ¬ 13 < op) (RA : ∀ w, Calls Tryd.prog 18 #[.agg #[.int .i64 k, .int .i64 n, .string s]] w (Ans (.bool true) w)) (RB : ∀ w, Calls Tryd.prog 18 #[.agg #[.int .i64 j, .int .i64 m, .string t]] w (Ans (.bool true) w)) (k0 : (k == 0) = true) (w : World) :
    Calls Tryd.prog 6 #[.int .i64 op, .agg #[.int .i64 k, .int .i64 n, .string s], .agg #[.int .i64 j, .int .i64 m, .string t]] w (Ans (.tuple #[.agg #[.int .i64 0, .int .i64 0, .string ⟨#[]⟩], .agg #[.int .i64 0, .int .i64 (-1)]]) w) := by
  have HX := Lib.hid (GC.new w k n s j m t)
  replace RA := Lib.hid RA
  replace RB := Lib.hid RB
  have FN : Hid (∀ w, Calls Tryd.prog 19 #[] w (Ans (.agg #[.int .i64 0, .int .i64 (-1)]) w)) := Lib.hid refBig_fine
  all_goals
    have HX := HX
    obtain ⟨a0, a1, a2⟩ := box3 HX.out.a
    obtain ⟨b0, b1, b2⟩ := box3 HX.out.b
    obtain ⟨r0, r1, r2⟩ := box3 HX.out.r
    have z0 := frozen3 HX.out.r 0
    have z1 := frozen3 HX.out.r 1
    have z2 := frozen3 HX.out.r 2
    obtain ⟨f0, f1⟩ := box2 HX.out.f
    have y0 := frozen3 HX.out.f 0
    have y1 := frozen3 HX.out.f 1
    go_enter Tryd.func6, Tryd.ntmps6
    go_wp2_with (first
      | (go_at_call 18; first | ((with_reducible refine (RA.out _).mono ?_); rintro e w2 ⟨rfl, hb⟩) | ((with_reducible refine (RB.out _).mono ?_); rintro e w2 ⟨rfl, hb⟩)
         have HX := Lib.hid (HX.out.next hb)
         obtain ⟨a0, a1, a2⟩ := box3 HX.out.a
         obtain ⟨b0, b1, b2⟩ := box3 HX.out.b
         obtain ⟨r0, r1, r2⟩ := box3 HX.out.r
         have z0 := frozen3 HX.out.r 0
         have z1 := frozen3 HX.out.r 1
         have z2 := frozen3 HX.out.r 2
         obtain ⟨f0, f1⟩ := box2 HX.out.f
         have y0 := frozen3 HX.out.f 0
         have y1 := frozen3 HX.out.f 1
         clear hb)
      | (go_at_call 19; refine (FN.out _).mono ?_; rintro e w5 ⟨rfl, hb⟩
         have HX := Lib.hid (HX.out.next hb)
         obtain ⟨a0, a1, a2⟩ := box3 HX.out.a
         obtain ⟨b0, b1, b2⟩ := box3 HX.out.b
         obtain ⟨r0, r1, r2⟩ := box3 HX.out.r
         have z0 := frozen3 HX.out.r 0
         have z1 := frozen3 HX.out.r 1
         have z2 := frozen3 HX.out.r 2
         obtain ⟨f0, f1⟩ := box2 HX.out.f
         have y0 := frozen3 HX.out.f 0
         have y1 := frozen3 HX.out.f 1
         clear hb))
    exact bodyPost_ret (v := .tuple #[.agg #[.int .i64 0, .int .i64 0, .string ⟨#[]⟩], .agg #[.int .i64 0, .int .i64 (-1)]]) (by simp [results, Tryd.results6, go_sem, r0, r1, r2, f0, f1]) rfl ⟨rfl, set5_bel HX.out.bel (by omega) (by omega) _ _ _ _ _⟩
set_option maxRecDepth 100000 in
set_option maxHeartbeats 8000000 in
theorem refC_nul1 (op k n j m : Int) (s t : ByteArray) (h8 : ¬ op < 8) (h13 : ¬ 13 < op) (RA : ∀ w, Calls Tryd.prog 18 #[.agg #[.int .i64 k, .int .i64 n, .string s]] w (Ans (.bool true) w)) (RB : ∀ w, Calls Tryd.prog 18 #[.agg #[.int .i64 j, .int .i64 m, .string t]] w (Ans (.bool true) w)) (k0 : (k == 0) = false) (j0 : (j == 0) = true) (w : World) :
    Calls Tryd.prog 6 #[.int .i64 op, .agg #[.int .i64 k, .int .i64 n, .string s], .agg #[.int .i64 j, .int .i64 m, .string t]] w (Ans (.tuple #[.agg #[.int .i64 0, .int .i64 0, .string ⟨#[]⟩], .agg #[.int .i64 0, .int .i64 (-1)]]) w) := by
  have HX := Lib.hid (GC.new w k n s j m t)
  replace RA := Lib.hid RA
  replace RB := Lib.hid RB
  have FN : Hid (∀ w, Calls Tryd.prog 19 #[] w (Ans (.agg #[.int .i64 0, .int .i64 (-1)]) w)) := Lib.hid refBig_fine
  all_goals
    have HX := HX
    obtain ⟨a0, a1, a2⟩ := box3 HX.out.a
    obtain ⟨b0, b1, b2⟩ := box3 HX.out.b
    obtain ⟨r0, r1, r2⟩ := box3 HX.out.r
    have z0 := frozen3 HX.out.r 0
    have z1 := frozen3 HX.out.r 1
    have z2 := frozen3 HX.out.r 2
    obtain ⟨f0, f1⟩ := box2 HX.out.f
    have y0 := frozen3 HX.out.f 0
    have y1 := frozen3 HX.out.f 1
    go_enter Tryd.func6, Tryd.ntmps6
    go_wp2_with (first
      | (go_at_call 18; first | ((with_reducible refine (RA.out _).mono ?_); rintro e w2 ⟨rfl, hb⟩) | ((with_reducible refine (RB.out _).mono ?_); rintro e w2 ⟨rfl, hb⟩)
         have HX := Lib.hid (HX.out.next hb)
         obtain ⟨a0, a1, a2⟩ := box3 HX.out.a
         obtain ⟨b0, b1, b2⟩ := box3 HX.out.b
         obtain ⟨r0, r1, r2⟩ := box3 HX.out.r
         have z0 := frozen3 HX.out.r 0
         have z1 := frozen3 HX.out.r 1
         have z2 := frozen3 HX.out.r 2
         obtain ⟨f0, f1⟩ := box2 HX.out.f
         have y0 := frozen3 HX.out.f 0
         have y1 := frozen3 HX.out.f 1
         clear hb)
      | (go_at_call 19; refine (FN.out _).mono ?_; rintro e w5 ⟨rfl, hb⟩
         have HX := Lib.hid (HX.out.next hb)
         obtain ⟨a0, a1, a2⟩ := box3 HX.out.a
         obtain ⟨b0, b1, b2⟩ := box3 HX.out.b
         obtain ⟨r0, r1, r2⟩ := box3 HX.out.r
         have z0 := frozen3 HX.out.r 0
         have z1 := frozen3 HX.out.r 1
         have z2 := frozen3 HX.out.r 2
         obtain ⟨f0, f1⟩ := box2 HX.out.f
         have y0 := frozen3 HX.out.f 0
         have y1 := frozen3 HX.out.f 1
         clear hb))
    exact bodyPost_ret (v := .tuple #[.agg #[.int .i64 0, .int .i64 0, .string ⟨#[]⟩], .agg #[.int .i64 0, .int .i64 (-1)]]) (by simp [results, Tryd.results6, go_sem, r0, r1, r2, f0, f1]) rfl ⟨rfl, set5_bel HX.out.bel (by omega) (by omega) _ _ _ _ _⟩
set_option maxRecDepth 100000 in
set_option maxHeartbeats 8000000 in
theorem refC_kinds (op k n j m : Int) (s t : ByteArray) (h8 : ¬ op < 8) (h13 : ¬ 13 < op) (RA : ∀ w, Calls Tryd.prog 18 #[.agg #[.int .i64 k, .int .i64 n, .string s]] w (Ans (.bool true) w)) (RB : ∀ w, Calls Tryd.prog 18 #[.agg #[.int .i64 j, .int .i64 m, .string t]] w (Ans (.bool true) w)) (k0 : (k == 0) = false) (j0 : (j == 0) = false) (SG : ∀ w, Calls Tryd.prog 8 #[.agg #[.int .i64 k, .int .i64 n, .string s], .agg #[.int .i64 j, .int .i64 m, .string t]] w (Ans (.tuple #[.int .i64 0, .agg #[.int .i64 22, .int .i64 1]]) w)) (w : World) :
    Calls Tryd.prog 6 #[.int .i64 op, .agg #[.int .i64 k, .int .i64 n, .string s], .agg #[.int .i64 j, .int .i64 m, .string t]] w (Ans (.tuple #[.agg #[.int .i64 0, .int .i64 0, .string ⟨#[]⟩], .agg #[.int .i64 22, .int .i64 1]]) w) := by
  have HX := Lib.hid (GC.new w k n s j m t)
  replace RA := Lib.hid RA
  replace RB := Lib.hid RB
  replace SG := Lib.hid SG
  all_goals
    have HX := HX
    obtain ⟨a0, a1, a2⟩ := box3 HX.out.a
    obtain ⟨b0, b1, b2⟩ := box3 HX.out.b
    obtain ⟨r0, r1, r2⟩ := box3 HX.out.r
    have z0 := frozen3 HX.out.r 0
    have z1 := frozen3 HX.out.r 1
    have z2 := frozen3 HX.out.r 2
    obtain ⟨f0, f1⟩ := box2 HX.out.f
    have y0 := frozen3 HX.out.f 0
    have y1 := frozen3 HX.out.f 1
    go_enter Tryd.func6, Tryd.ntmps6
    go_wp2_with (first
      | (go_at_call 18; first | ((with_reducible refine (RA.out _).mono ?_); rintro e w2 ⟨rfl, hb⟩) | ((with_reducible refine (RB.out _).mono ?_); rintro e w2 ⟨rfl, hb⟩)
         have HX := Lib.hid (HX.out.next hb)
         obtain ⟨a0, a1, a2⟩ := box3 HX.out.a
         obtain ⟨b0, b1, b2⟩ := box3 HX.out.b
         obtain ⟨r0, r1, r2⟩ := box3 HX.out.r
         have z0 := frozen3 HX.out.r 0
         have z1 := frozen3 HX.out.r 1
         have z2 := frozen3 HX.out.r 2
         obtain ⟨f0, f1⟩ := box2 HX.out.f
         have y0 := frozen3 HX.out.f 0
         have y1 := frozen3 HX.out.f 1
         clear hb)
      | (go_at_call 8; refine (SG.out _).mono ?_; rintro e w3 ⟨rfl, hb⟩
         have HS := Lib.hid (Nat.lt_of_lt_of_le HX.out.lt hb.size)
         have hq := heap_alloc_new w3 (.cells #[.int .i64 22, .int .i64 1] 33)
         obtain ⟨q0, q1⟩ := box2 hq
         replace hb := hb.trans ((alloc_below w3 (.cells #[.int .i64 22, .int .i64 1] 33)).mono hb.size)
         have HQ := Lib.hid hq
         clear hq
         have HX := Lib.hid (HX.out.next hb)
         obtain ⟨a0, a1, a2⟩ := box3 HX.out.a
         obtain ⟨b0, b1, b2⟩ := box3 HX.out.b
         obtain ⟨r0, r1, r2⟩ := box3 HX.out.r
         have z0 := frozen3 HX.out.r 0
         have z1 := frozen3 HX.out.r 1
         have z2 := frozen3 HX.out.r 2
         obtain ⟨f0, f1⟩ := box2 HX.out.f
         have y0 := frozen3 HX.out.f 0
         have y1 := frozen3 HX.out.f 1
         clear hb))
    obtain ⟨W0, hW0⟩ : ∃ W0, W0 = w3.alloc (.cells #[.int .i64 22, .int .i64 1] 33) := ⟨_, rfl⟩
    obtain ⟨p, hp⟩ : ∃ p, p = w3.heap.size := ⟨_, rfl⟩
    have hs := HS.out
    rw [← hW0, ← hp] at HQ
    rw [← hW0] at HX
    rw [← hp] at hs
    rw [← hW0, ← hp]
    clear hW0 hp HS a0 a1 a2 b0 b1 b2 r0 r1 r2 f0 f1 z0 z1 z2 y0 y1 q0 q1
    have p2 : ¬ p = w.heap.size + 1 + 1 := by omega
    have p3 : ¬ p = w.heap.size + 1 + 1 + 1 := by omega
    have p2' : ¬ w.heap.size + 1 + 1 = p := by omega
    have p3' : ¬ w.heap.size + 1 + 1 + 1 = p := by omega
    obtain ⟨q0, q1⟩ := box2 HQ.out
    obtain ⟨a0, a1, a2⟩ := box3 HX.out.a
    obtain ⟨b0, b1, b2⟩ := box3 HX.out.b
    obtain ⟨r0, r1, r2⟩ := box3 HX.out.r
    have z0 := frozen3 HX.out.r 0
    have z1 := frozen3 HX.out.r 1
    have z2 := frozen3 HX.out.r 2
    obtain ⟨f0, f1⟩ := box2 HX.out.f
    have y0 := frozen3 HX.out.f 0
    have y1 := frozen3 HX.out.f 1
    go_region_law (fail)
    all_goals go_wp2_with fail
    all_goals exact bodyPost_ret (v := .tuple #[.agg #[.int .i64 0, .int .i64 0, .string ⟨#[]⟩], .agg #[.int .i64 22, .int .i64 1]]) (by simp [results, Tryd.results6, go_sem, r0, r1, r2, f0, f1]) rfl ⟨rfl, by repeat (first | exact HX.out.bel | apply Below.drew | (refine Below.setCell ?_ (by dsimp only; omega) _))⟩
end Go.Proofs.YtjfbhajaddgmpaaDoor
