/- The document's Sign of two numbers: numbers of each pair of kinds. -/
import Derived.Test.YtjfbhajaddgmpaaDoorNCI
import Derived.Test.YtjfbhajaddgmpaaDoorNT
namespace Go.Proofs.YtjfbhajaddgmpaaDoor
open Go.RowKit

structure GX (w W : World) (x y : Val) : Prop where
  a : W.heap[w.heap.size]? = some (.cells #[.int .i64 x.k, .int .i64 x.n, .string x.s] 25 (0, 0))
  b : W.heap[w.heap.size + 1]? = some (.cells #[.int .i64 y.k, .int .i64 y.n, .string y.s] 25 (0, 0))
  r : W.heap[w.heap.size + 1 + 1]? = some (.cells #[.int .i64 0, .int .i64 0] 33 (0, 0))
  bel : Below w.heap.size w W
  lt : w.heap.size + 1 + 1 < W.heap.size
theorem GX.next {w W W2 : World} {x y : Val} (h : GX w W x y) (hb : Below W.heap.size W W2) : GX w W2 x y :=
  ⟨(hb.block _ (by have := h.lt; omega)).trans h.a, (hb.block _ (by have := h.lt; omega)).trans h.b, (hb.block _ h.lt).trans h.r, h.bel.trans (hb.mono h.bel.size), Nat.lt_of_lt_of_le h.lt hb.size⟩
theorem GX.new (w : World) (x y : Val) : GX w (((w.alloc (.cells #[.int .i64 x.k, .int .i64 x.n, .string x.s] 25)).alloc (.cells #[.int .i64 y.k, .int .i64 y.n, .string y.s] 25)).alloc (.cells #[.int .i64 0, .int .i64 0] 33)) x y := by
  have e : ∀ (v : World) o, (v.alloc o).heap.size = v.heap.size + 1 := fun v o => by simp
  refine ⟨?_, ?_, ?_, ?_, by rw [e, e, e]; omega⟩
  · rw [heap_at, if_neg (by rw [e, e]; omega), heap_at, if_neg (by rw [e]; omega), heap_at, if_pos rfl]
  · rw [heap_at, if_neg (by rw [e, e]; omega), heap_at, if_pos (by rw [e])]
  · rw [heap_at, if_pos (by rw [e, e])]
  · exact ((alloc_below w _).trans ((alloc_below _ _).mono (by rw [e]; omega))).trans ((alloc_below _ _).mono (by rw [e, e]; omega))
structure GY (w W : World) (x y : Val) (p : Nat) (g : Bool) (d0 d1 d2 : Int) : Prop where
  x : GX w W x y
  o : W.heap[p]? = some (.cells #[.bool g, .int .u64 d0, .int .u64 d1, .int .u64 d2, .int .u64 0, .int .u64 0, .int .u64 0] 58 (0, 0))
theorem GY.next {w W W2 : World} {x y : Val} {p : Nat} {g : Bool} {d0 d1 d2 : Int} (h : GY w W x y p g d0 d1 d2) (hb : Below W.heap.size W W2) : GY w W2 x y p g d0 d1 d2 :=
  ⟨h.x.next hb, (hb.block _ (Array.getElem?_eq_some_iff.1 h.o).1).trans h.o⟩
theorem GY.drew {w W : World} {x y : Val} {p : Nat} {g : Bool} {d0 d1 d2 : Int} (h : GY w W x y p g d0 d1 d2) : GY w W.drew x y p g d0 d1 d2 := h.next (drew_below W)
theorem GY.new {w W : World} {x y : Val} (h : GX w W x y) (g : Bool) (d0 d1 d2 : Int) : GY w (W.alloc (.cells #[.bool g, .int .u64 d0, .int .u64 d1, .int .u64 d2, .int .u64 0, .int .u64 0, .int .u64 0] 58)) x y W.heap.size g d0 d1 d2 :=
  ⟨h.next (alloc_below W _), heap_alloc_new W _⟩
theorem set2_bel {w w3 : World} {B b : Nat} (h : Below B w w3) (hb : B ≤ b) (x y : Value) : Below B w ((w3.setCell ⟨b, 0, none⟩ x).setCell ⟨b, 1, none⟩ y) :=
  (h.setCell (p := ⟨b, 0, none⟩) hb x).setCell (p := ⟨b, 1, none⟩) hb y
set_option maxRecDepth 100000 in
set_option maxHeartbeats 8000000 in
theorem refSign_22 (n m : Int) (hn : i64ok n) (hm : i64ok m) (w : World)
    (RA : ∀ w, Calls Tryd.prog 18 #[.agg #[.int .i64 2, .int .i64 n, .string ⟨#[]⟩]] w (Ans (.bool true) w))
    (RB : ∀ w, Calls Tryd.prog 18 #[.agg #[.int .i64 2, .int .i64 m, .string ⟨#[]⟩]] w (Ans (.bool true) w)) :
    Calls Tryd.prog 8 #[.agg #[.int .i64 2, .int .i64 n, .string ⟨#[]⟩], .agg #[.int .i64 2, .int .i64 m, .string ⟨#[]⟩]] w (Ans (.tuple #[.int .i64 (signN 2 n 2 m), .agg #[.int .i64 0, .int .i64 (-1)]]) w) := by
  have HX := Lib.hid (GX.new w ⟨2, n, ⟨#[]⟩⟩ ⟨2, m, ⟨#[]⟩⟩)
  replace RA := Lib.hid RA
  replace RB := Lib.hid RB
  have SA : Hid (∀ w, Calls Tryd.prog 27 #[.agg #[.int .i64 2, .int .i64 n, .string ⟨#[]⟩]] w (Ans (.agg (magC (decide (n < 0)) (sclN 2 n))) w)) := Lib.hid fun w => refBig_scaled 2 n _ hn w
  obtain ⟨d0, hd0⟩ : ∃ d : Int, Hid (d = sclN 2 m % 4294967296) := ⟨_, Lib.hid rfl⟩
  obtain ⟨d1, hd1⟩ : ∃ d : Int, Hid (d = sclN 2 m / 4294967296 % 4294967296) := ⟨_, Lib.hid rfl⟩
  obtain ⟨d2, hd2⟩ : ∃ d : Int, Hid (d = sclN 2 m / 4294967296 / 4294967296) := ⟨_, Lib.hid rfl⟩
  obtain ⟨g, hg⟩ : ∃ g : Bool, Hid (g = decide (m < 0)) := ⟨_, Lib.hid rfl⟩
  have SB : Hid (∀ w, Calls Tryd.prog 27 #[.agg #[.int .i64 2, .int .i64 m, .string ⟨#[]⟩]] w (Ans (.agg #[.bool g, .int .u64 d0, .int .u64 d1, .int .u64 d2, .int .u64 0, .int .u64 0, .int .u64 0]) w)) := Lib.hid fun w => by rw [hd0.out, hd1.out, hd2.out, hg.out]; exact refBig_scaled 2 m _ hm w
  obtain ⟨z, Z, ad, sg⟩ := refBig_diff 2 n 2 m (by decide) (by decide) hn hm
  have AD : Hid (∀ w, Calls Tryd.prog 28 #[.agg (magC (decide (n < 0)) (sclN 2 n)), .agg #[.bool (!g), .int .u64 d0, .int .u64 d1, .int .u64 d2, .int .u64 0, .int .u64 0, .int .u64 0]] w (Ans (.agg (magC z Z)) w)) := Lib.hid fun w => by rw [hd0.out, hd1.out, hd2.out, hg.out]; exact ad w
  have SG := Lib.hid sg
  have FN : Hid (∀ w, Calls Tryd.prog 19 #[] w (Ans (.agg #[.int .i64 0, .int .i64 (-1)]) w)) := Lib.hid refBig_fine
  obtain ⟨X, hX⟩ : ∃ X, Hid (X = magC (decide (n < 0)) (sclN 2 n)) := ⟨_, Lib.hid rfl⟩
  rw [← hX.out] at SA AD
  obtain ⟨U, hU⟩ : ∃ U, Hid (U = magC z Z) := ⟨_, Lib.hid rfl⟩
  rw [← hU.out] at SG AD
  generalize signN 2 n 2 m = res at *
  clear ad sg hd0 hd1 hd2 hg hn hm hX hU
  go_enter Tryd.func8, Tryd.ntmps8
  go_wp2_with (first
      | (go_at_call 18; first | ((with_reducible refine (RA.out _).mono ?_); rintro e w2 ⟨rfl, hb⟩) | ((with_reducible refine (RB.out _).mono ?_); rintro e w2 ⟨rfl, hb⟩)
         have HX := Lib.hid (HX.out.next hb)
         obtain ⟨a0, a1, a2⟩ := box3 HX.out.a
         obtain ⟨b0, b1, b2⟩ := box3 HX.out.b
         clear hb)
      | (go_at_call 27; (with_reducible refine (SB.out _).mono ?_); rintro e w5 ⟨rfl, hb⟩
         have HX := Lib.hid (HX.out.next hb)
         obtain ⟨a0, a1, a2⟩ := box3 HX.out.a
         obtain ⟨b0, b1, b2⟩ := box3 HX.out.b
         clear hb))
  obtain ⟨W0, hW0⟩ : ∃ W0, W0 = w5.alloc (.cells #[.bool !g, .int .u64 d0, .int .u64 d1, .int .u64 d2, .int .u64 0, .int .u64 0, .int .u64 0] 58) := ⟨_, rfl⟩
  obtain ⟨p, hp⟩ : ∃ p, p = w5.heap.size := ⟨_, rfl⟩
  have HY := Lib.hid (GY.new HX.out (!g) d0 d1 d2)
  rw [← hW0, ← hp] at HY
  rw [← hW0]
  rw [← hp]
  clear hW0 hp a0 a1 a2 b0 b1 b2
  obtain ⟨a0, a1, a2⟩ := box3 HY.out.x.a
  obtain ⟨b0, b1, b2⟩ := box3 HY.out.x.b
  obtain ⟨r0, r1⟩ := box2 HY.out.x.r
  have z0 := frozen3 HY.out.x.r 0
  have z1 := frozen3 HY.out.x.r 1
  obtain ⟨q0, q1, q2, q3, q4, q5, q6⟩ := box7 HY.out.o
  go_region_law (first
      | (go_simp; go_at_call 27; (with_reducible refine (SA.out _).mono ?_); rintro e w6 ⟨rfl, hb⟩
         have HY := Lib.hid (by first | exact HY.out.next hb | exact HY.out.drew.next hb)
         obtain ⟨a0, a1, a2⟩ := box3 HY.out.x.a
         obtain ⟨b0, b1, b2⟩ := box3 HY.out.x.b
         obtain ⟨r0, r1⟩ := box2 HY.out.x.r
         have z0 := frozen3 HY.out.x.r 0
         have z1 := frozen3 HY.out.x.r 1
         obtain ⟨q0, q1, q2, q3, q4, q5, q6⟩ := box7 HY.out.o
         clear hb)
      | (go_simp; go_at_call 28; (with_reducible refine (AD.out _).mono ?_); rintro e w7 ⟨rfl, hb⟩
         have HY := Lib.hid (by first | exact HY.out.next hb | exact HY.out.drew.next hb)
         obtain ⟨a0, a1, a2⟩ := box3 HY.out.x.a
         obtain ⟨b0, b1, b2⟩ := box3 HY.out.x.b
         obtain ⟨r0, r1⟩ := box2 HY.out.x.r
         have z0 := frozen3 HY.out.x.r 0
         have z1 := frozen3 HY.out.x.r 1
         obtain ⟨q0, q1, q2, q3, q4, q5, q6⟩ := box7 HY.out.o
         clear hb)
      | (go_simp; go_at_call 29; (with_reducible refine (SG.out _).mono ?_); rintro e w8 ⟨rfl, hb⟩
         have HY := Lib.hid (by first | exact HY.out.next hb | exact HY.out.drew.next hb)
         obtain ⟨a0, a1, a2⟩ := box3 HY.out.x.a
         obtain ⟨b0, b1, b2⟩ := box3 HY.out.x.b
         obtain ⟨r0, r1⟩ := box2 HY.out.x.r
         have z0 := frozen3 HY.out.x.r 0
         have z1 := frozen3 HY.out.x.r 1
         obtain ⟨q0, q1, q2, q3, q4, q5, q6⟩ := box7 HY.out.o
         clear hb)
      | (go_simp; go_at_call 19; (with_reducible refine (FN.out _).mono ?_); rintro e w9 ⟨rfl, hb⟩
         have HY := Lib.hid (by first | exact HY.out.next hb | exact HY.out.drew.next hb)
         obtain ⟨a0, a1, a2⟩ := box3 HY.out.x.a
         obtain ⟨b0, b1, b2⟩ := box3 HY.out.x.b
         obtain ⟨r0, r1⟩ := box2 HY.out.x.r
         have z0 := frozen3 HY.out.x.r 0
         have z1 := frozen3 HY.out.x.r 1
         obtain ⟨q0, q1, q2, q3, q4, q5, q6⟩ := box7 HY.out.o
         clear hb))
  all_goals
    go_wp2_with fail
    exact bodyPost_ret (v := .tuple #[.int .i64 res, .agg #[.int .i64 0, .int .i64 (-1)]]) (by simp [results, Tryd.results8, go_sem, r0, r1]) rfl ⟨rfl, set2_bel HY.out.x.bel (by omega) _ _⟩
set_option maxRecDepth 100000 in
set_option maxHeartbeats 8000000 in
theorem refSign_23 (n m : Int) (hn : i64ok n) (hm : i64ok m) (w : World)
    (RA : ∀ w, Calls Tryd.prog 18 #[.agg #[.int .i64 2, .int .i64 n, .string ⟨#[]⟩]] w (Ans (.bool true) w))
    (RB : ∀ w, Calls Tryd.prog 18 #[.agg #[.int .i64 3, .int .i64 m, .string ⟨#[]⟩]] w (Ans (.bool true) w)) :
    Calls Tryd.prog 8 #[.agg #[.int .i64 2, .int .i64 n, .string ⟨#[]⟩], .agg #[.int .i64 3, .int .i64 m, .string ⟨#[]⟩]] w (Ans (.tuple #[.int .i64 (signN 2 n 3 m), .agg #[.int .i64 0, .int .i64 (-1)]]) w) := by
  have HX := Lib.hid (GX.new w ⟨2, n, ⟨#[]⟩⟩ ⟨3, m, ⟨#[]⟩⟩)
  replace RA := Lib.hid RA
  replace RB := Lib.hid RB
  have SA : Hid (∀ w, Calls Tryd.prog 27 #[.agg #[.int .i64 2, .int .i64 n, .string ⟨#[]⟩]] w (Ans (.agg (magC (decide (n < 0)) (sclN 2 n))) w)) := Lib.hid fun w => refBig_scaled 2 n _ hn w
  obtain ⟨d0, hd0⟩ : ∃ d : Int, Hid (d = sclN 3 m % 4294967296) := ⟨_, Lib.hid rfl⟩
  obtain ⟨d1, hd1⟩ : ∃ d : Int, Hid (d = sclN 3 m / 4294967296 % 4294967296) := ⟨_, Lib.hid rfl⟩
  obtain ⟨d2, hd2⟩ : ∃ d : Int, Hid (d = sclN 3 m / 4294967296 / 4294967296) := ⟨_, Lib.hid rfl⟩
  obtain ⟨g, hg⟩ : ∃ g : Bool, Hid (g = decide (m < 0)) := ⟨_, Lib.hid rfl⟩
  have SB : Hid (∀ w, Calls Tryd.prog 27 #[.agg #[.int .i64 3, .int .i64 m, .string ⟨#[]⟩]] w (Ans (.agg #[.bool g, .int .u64 d0, .int .u64 d1, .int .u64 d2, .int .u64 0, .int .u64 0, .int .u64 0]) w)) := Lib.hid fun w => by rw [hd0.out, hd1.out, hd2.out, hg.out]; exact refBig_scaled 3 m _ hm w
  obtain ⟨z, Z, ad, sg⟩ := refBig_diff 2 n 3 m (by decide) (by decide) hn hm
  have AD : Hid (∀ w, Calls Tryd.prog 28 #[.agg (magC (decide (n < 0)) (sclN 2 n)), .agg #[.bool (!g), .int .u64 d0, .int .u64 d1, .int .u64 d2, .int .u64 0, .int .u64 0, .int .u64 0]] w (Ans (.agg (magC z Z)) w)) := Lib.hid fun w => by rw [hd0.out, hd1.out, hd2.out, hg.out]; exact ad w
  have SG := Lib.hid sg
  have FN : Hid (∀ w, Calls Tryd.prog 19 #[] w (Ans (.agg #[.int .i64 0, .int .i64 (-1)]) w)) := Lib.hid refBig_fine
  obtain ⟨X, hX⟩ : ∃ X, Hid (X = magC (decide (n < 0)) (sclN 2 n)) := ⟨_, Lib.hid rfl⟩
  rw [← hX.out] at SA AD
  obtain ⟨U, hU⟩ : ∃ U, Hid (U = magC z Z) := ⟨_, Lib.hid rfl⟩
  rw [← hU.out] at SG AD
  generalize signN 2 n 3 m = res at *
  clear ad sg hd0 hd1 hd2 hg hn hm hX hU
  go_enter Tryd.func8, Tryd.ntmps8
  go_wp2_with (first
      | (go_at_call 18; first | ((with_reducible refine (RA.out _).mono ?_); rintro e w2 ⟨rfl, hb⟩) | ((with_reducible refine (RB.out _).mono ?_); rintro e w2 ⟨rfl, hb⟩)
         have HX := Lib.hid (HX.out.next hb)
         obtain ⟨a0, a1, a2⟩ := box3 HX.out.a
         obtain ⟨b0, b1, b2⟩ := box3 HX.out.b
         clear hb)
      | (go_at_call 27; (with_reducible refine (SB.out _).mono ?_); rintro e w5 ⟨rfl, hb⟩
         have HX := Lib.hid (HX.out.next hb)
         obtain ⟨a0, a1, a2⟩ := box3 HX.out.a
         obtain ⟨b0, b1, b2⟩ := box3 HX.out.b
         clear hb))
  obtain ⟨W0, hW0⟩ : ∃ W0, W0 = w5.alloc (.cells #[.bool !g, .int .u64 d0, .int .u64 d1, .int .u64 d2, .int .u64 0, .int .u64 0, .int .u64 0] 58) := ⟨_, rfl⟩
  obtain ⟨p, hp⟩ : ∃ p, p = w5.heap.size := ⟨_, rfl⟩
  have HY := Lib.hid (GY.new HX.out (!g) d0 d1 d2)
  rw [← hW0, ← hp] at HY
  rw [← hW0]
  rw [← hp]
  clear hW0 hp a0 a1 a2 b0 b1 b2
  obtain ⟨a0, a1, a2⟩ := box3 HY.out.x.a
  obtain ⟨b0, b1, b2⟩ := box3 HY.out.x.b
  obtain ⟨r0, r1⟩ := box2 HY.out.x.r
  have z0 := frozen3 HY.out.x.r 0
  have z1 := frozen3 HY.out.x.r 1
  obtain ⟨q0, q1, q2, q3, q4, q5, q6⟩ := box7 HY.out.o
  go_region_law (first
      | (go_simp; go_at_call 27; (with_reducible refine (SA.out _).mono ?_); rintro e w6 ⟨rfl, hb⟩
         have HY := Lib.hid (by first | exact HY.out.next hb | exact HY.out.drew.next hb)
         obtain ⟨a0, a1, a2⟩ := box3 HY.out.x.a
         obtain ⟨b0, b1, b2⟩ := box3 HY.out.x.b
         obtain ⟨r0, r1⟩ := box2 HY.out.x.r
         have z0 := frozen3 HY.out.x.r 0
         have z1 := frozen3 HY.out.x.r 1
         obtain ⟨q0, q1, q2, q3, q4, q5, q6⟩ := box7 HY.out.o
         clear hb)
      | (go_simp; go_at_call 28; (with_reducible refine (AD.out _).mono ?_); rintro e w7 ⟨rfl, hb⟩
         have HY := Lib.hid (by first | exact HY.out.next hb | exact HY.out.drew.next hb)
         obtain ⟨a0, a1, a2⟩ := box3 HY.out.x.a
         obtain ⟨b0, b1, b2⟩ := box3 HY.out.x.b
         obtain ⟨r0, r1⟩ := box2 HY.out.x.r
         have z0 := frozen3 HY.out.x.r 0
         have z1 := frozen3 HY.out.x.r 1
         obtain ⟨q0, q1, q2, q3, q4, q5, q6⟩ := box7 HY.out.o
         clear hb)
      | (go_simp; go_at_call 29; (with_reducible refine (SG.out _).mono ?_); rintro e w8 ⟨rfl, hb⟩
         have HY := Lib.hid (by first | exact HY.out.next hb | exact HY.out.drew.next hb)
         obtain ⟨a0, a1, a2⟩ := box3 HY.out.x.a
         obtain ⟨b0, b1, b2⟩ := box3 HY.out.x.b
         obtain ⟨r0, r1⟩ := box2 HY.out.x.r
         have z0 := frozen3 HY.out.x.r 0
         have z1 := frozen3 HY.out.x.r 1
         obtain ⟨q0, q1, q2, q3, q4, q5, q6⟩ := box7 HY.out.o
         clear hb)
      | (go_simp; go_at_call 19; (with_reducible refine (FN.out _).mono ?_); rintro e w9 ⟨rfl, hb⟩
         have HY := Lib.hid (by first | exact HY.out.next hb | exact HY.out.drew.next hb)
         obtain ⟨a0, a1, a2⟩ := box3 HY.out.x.a
         obtain ⟨b0, b1, b2⟩ := box3 HY.out.x.b
         obtain ⟨r0, r1⟩ := box2 HY.out.x.r
         have z0 := frozen3 HY.out.x.r 0
         have z1 := frozen3 HY.out.x.r 1
         obtain ⟨q0, q1, q2, q3, q4, q5, q6⟩ := box7 HY.out.o
         clear hb))
  all_goals
    go_wp2_with fail
    exact bodyPost_ret (v := .tuple #[.int .i64 res, .agg #[.int .i64 0, .int .i64 (-1)]]) (by simp [results, Tryd.results8, go_sem, r0, r1]) rfl ⟨rfl, set2_bel HY.out.x.bel (by omega) _ _⟩
set_option maxRecDepth 100000 in
set_option maxHeartbeats 8000000 in
theorem refSign_32 (n m : Int) (hn : i64ok n) (hm : i64ok m) (w : World)
    (RA : ∀ w, Calls Tryd.prog 18 #[.agg #[.int .i64 3, .int .i64 n, .string ⟨#[]⟩]] w (Ans (.bool true) w))
    (RB : ∀ w, Calls Tryd.prog 18 #[.agg #[.int .i64 2, .int .i64 m, .string ⟨#[]⟩]] w (Ans (.bool true) w)) :
    Calls Tryd.prog 8 #[.agg #[.int .i64 3, .int .i64 n, .string ⟨#[]⟩], .agg #[.int .i64 2, .int .i64 m, .string ⟨#[]⟩]] w (Ans (.tuple #[.int .i64 (signN 3 n 2 m), .agg #[.int .i64 0, .int .i64 (-1)]]) w) := by
  have HX := Lib.hid (GX.new w ⟨3, n, ⟨#[]⟩⟩ ⟨2, m, ⟨#[]⟩⟩)
  replace RA := Lib.hid RA
  replace RB := Lib.hid RB
  have SA : Hid (∀ w, Calls Tryd.prog 27 #[.agg #[.int .i64 3, .int .i64 n, .string ⟨#[]⟩]] w (Ans (.agg (magC (decide (n < 0)) (sclN 3 n))) w)) := Lib.hid fun w => refBig_scaled 3 n _ hn w
  obtain ⟨d0, hd0⟩ : ∃ d : Int, Hid (d = sclN 2 m % 4294967296) := ⟨_, Lib.hid rfl⟩
  obtain ⟨d1, hd1⟩ : ∃ d : Int, Hid (d = sclN 2 m / 4294967296 % 4294967296) := ⟨_, Lib.hid rfl⟩
  obtain ⟨d2, hd2⟩ : ∃ d : Int, Hid (d = sclN 2 m / 4294967296 / 4294967296) := ⟨_, Lib.hid rfl⟩
  obtain ⟨g, hg⟩ : ∃ g : Bool, Hid (g = decide (m < 0)) := ⟨_, Lib.hid rfl⟩
  have SB : Hid (∀ w, Calls Tryd.prog 27 #[.agg #[.int .i64 2, .int .i64 m, .string ⟨#[]⟩]] w (Ans (.agg #[.bool g, .int .u64 d0, .int .u64 d1, .int .u64 d2, .int .u64 0, .int .u64 0, .int .u64 0]) w)) := Lib.hid fun w => by rw [hd0.out, hd1.out, hd2.out, hg.out]; exact refBig_scaled 2 m _ hm w
  obtain ⟨z, Z, ad, sg⟩ := refBig_diff 3 n 2 m (by decide) (by decide) hn hm
  have AD : Hid (∀ w, Calls Tryd.prog 28 #[.agg (magC (decide (n < 0)) (sclN 3 n)), .agg #[.bool (!g), .int .u64 d0, .int .u64 d1, .int .u64 d2, .int .u64 0, .int .u64 0, .int .u64 0]] w (Ans (.agg (magC z Z)) w)) := Lib.hid fun w => by rw [hd0.out, hd1.out, hd2.out, hg.out]; exact ad w
  have SG := Lib.hid sg
  have FN : Hid (∀ w, Calls Tryd.prog 19 #[] w (Ans (.agg #[.int .i64 0, .int .i64 (-1)]) w)) := Lib.hid refBig_fine
  obtain ⟨X, hX⟩ : ∃ X, Hid (X = magC (decide (n < 0)) (sclN 3 n)) := ⟨_, Lib.hid rfl⟩
  rw [← hX.out] at SA AD
  obtain ⟨U, hU⟩ : ∃ U, Hid (U = magC z Z) := ⟨_, Lib.hid rfl⟩
  rw [← hU.out] at SG AD
  generalize signN 3 n 2 m = res at *
  clear ad sg hd0 hd1 hd2 hg hn hm hX hU
  go_enter Tryd.func8, Tryd.ntmps8
  go_wp2_with (first
      | (go_at_call 18; first | ((with_reducible refine (RA.out _).mono ?_); rintro e w2 ⟨rfl, hb⟩) | ((with_reducible refine (RB.out _).mono ?_); rintro e w2 ⟨rfl, hb⟩)
         have HX := Lib.hid (HX.out.next hb)
         obtain ⟨a0, a1, a2⟩ := box3 HX.out.a
         obtain ⟨b0, b1, b2⟩ := box3 HX.out.b
         clear hb)
      | (go_at_call 27; (with_reducible refine (SB.out _).mono ?_); rintro e w5 ⟨rfl, hb⟩
         have HX := Lib.hid (HX.out.next hb)
         obtain ⟨a0, a1, a2⟩ := box3 HX.out.a
         obtain ⟨b0, b1, b2⟩ := box3 HX.out.b
         clear hb))
  obtain ⟨W0, hW0⟩ : ∃ W0, W0 = w5.alloc (.cells #[.bool !g, .int .u64 d0, .int .u64 d1, .int .u64 d2, .int .u64 0, .int .u64 0, .int .u64 0] 58) := ⟨_, rfl⟩
  obtain ⟨p, hp⟩ : ∃ p, p = w5.heap.size := ⟨_, rfl⟩
  have HY := Lib.hid (GY.new HX.out (!g) d0 d1 d2)
  rw [← hW0, ← hp] at HY
  rw [← hW0]
  rw [← hp]
  clear hW0 hp a0 a1 a2 b0 b1 b2
  obtain ⟨a0, a1, a2⟩ := box3 HY.out.x.a
  obtain ⟨b0, b1, b2⟩ := box3 HY.out.x.b
  obtain ⟨r0, r1⟩ := box2 HY.out.x.r
  have z0 := frozen3 HY.out.x.r 0
  have z1 := frozen3 HY.out.x.r 1
  obtain ⟨q0, q1, q2, q3, q4, q5, q6⟩ := box7 HY.out.o
  go_region_law (first
      | (go_simp; go_at_call 27; (with_reducible refine (SA.out _).mono ?_); rintro e w6 ⟨rfl, hb⟩
         have HY := Lib.hid (by first | exact HY.out.next hb | exact HY.out.drew.next hb)
         obtain ⟨a0, a1, a2⟩ := box3 HY.out.x.a
         obtain ⟨b0, b1, b2⟩ := box3 HY.out.x.b
         obtain ⟨r0, r1⟩ := box2 HY.out.x.r
         have z0 := frozen3 HY.out.x.r 0
         have z1 := frozen3 HY.out.x.r 1
         obtain ⟨q0, q1, q2, q3, q4, q5, q6⟩ := box7 HY.out.o
         clear hb)
      | (go_simp; go_at_call 28; (with_reducible refine (AD.out _).mono ?_); rintro e w7 ⟨rfl, hb⟩
         have HY := Lib.hid (by first | exact HY.out.next hb | exact HY.out.drew.next hb)
         obtain ⟨a0, a1, a2⟩ := box3 HY.out.x.a
         obtain ⟨b0, b1, b2⟩ := box3 HY.out.x.b
         obtain ⟨r0, r1⟩ := box2 HY.out.x.r
         have z0 := frozen3 HY.out.x.r 0
         have z1 := frozen3 HY.out.x.r 1
         obtain ⟨q0, q1, q2, q3, q4, q5, q6⟩ := box7 HY.out.o
         clear hb)
      | (go_simp; go_at_call 29; (with_reducible refine (SG.out _).mono ?_); rintro e w8 ⟨rfl, hb⟩
         have HY := Lib.hid (by first | exact HY.out.next hb | exact HY.out.drew.next hb)
         obtain ⟨a0, a1, a2⟩ := box3 HY.out.x.a
         obtain ⟨b0, b1, b2⟩ := box3 HY.out.x.b
         obtain ⟨r0, r1⟩ := box2 HY.out.x.r
         have z0 := frozen3 HY.out.x.r 0
         have z1 := frozen3 HY.out.x.r 1
         obtain ⟨q0, q1, q2, q3, q4, q5, q6⟩ := box7 HY.out.o
         clear hb)
      | (go_simp; go_at_call 19; (with_reducible refine (FN.out _).mono ?_); rintro e w9 ⟨rfl, hb⟩
         have HY := Lib.hid (by first | exact HY.out.next hb | exact HY.out.drew.next hb)
         obtain ⟨a0, a1, a2⟩ := box3 HY.out.x.a
         obtain ⟨b0, b1, b2⟩ := box3 HY.out.x.b
         obtain ⟨r0, r1⟩ := box2 HY.out.x.r
         have z0 := frozen3 HY.out.x.r 0
         have z1 := frozen3 HY.out.x.r 1
         obtain ⟨q0, q1, q2, q3, q4, q5, q6⟩ := box7 HY.out.o
         clear hb))
  all_goals
    go_wp2_with fail
    exact bodyPost_ret (v := .tuple #[.int .i64 res, .agg #[.int .i64 0, .int .i64 (-1)]]) (by simp [results, Tryd.results8, go_sem, r0, r1]) rfl ⟨rfl, set2_bel HY.out.x.bel (by omega) _ _⟩
set_option maxRecDepth 100000 in
set_option maxHeartbeats 8000000 in
theorem refSign_33 (n m : Int) (hn : i64ok n) (hm : i64ok m) (w : World)
    (RA : ∀ w, Calls Tryd.prog 18 #[.agg #[.int .i64 3, .int .i64 n, .string ⟨#[]⟩]] w (Ans (.bool true) w))
    (RB : ∀ w, Calls Tryd.prog 18 #[.agg #[.int .i64 3, .int .i64 m, .string ⟨#[]⟩]] w (Ans (.bool true) w)) :
    Calls Tryd.prog 8 #[.agg #[.int .i64 3, .int .i64 n, .string ⟨#[]⟩], .agg #[.int .i64 3, .int .i64 m, .string ⟨#[]⟩]] w (Ans (.tuple #[.int .i64 (signN 3 n 3 m), .agg #[.int .i64 0, .int .i64 (-1)]]) w) := by
  have HX := Lib.hid (GX.new w ⟨3, n, ⟨#[]⟩⟩ ⟨3, m, ⟨#[]⟩⟩)
  replace RA := Lib.hid RA
  replace RB := Lib.hid RB
  have SA : Hid (∀ w, Calls Tryd.prog 27 #[.agg #[.int .i64 3, .int .i64 n, .string ⟨#[]⟩]] w (Ans (.agg (magC (decide (n < 0)) (sclN 3 n))) w)) := Lib.hid fun w => refBig_scaled 3 n _ hn w
  obtain ⟨d0, hd0⟩ : ∃ d : Int, Hid (d = sclN 3 m % 4294967296) := ⟨_, Lib.hid rfl⟩
  obtain ⟨d1, hd1⟩ : ∃ d : Int, Hid (d = sclN 3 m / 4294967296 % 4294967296) := ⟨_, Lib.hid rfl⟩
  obtain ⟨d2, hd2⟩ : ∃ d : Int, Hid (d = sclN 3 m / 4294967296 / 4294967296) := ⟨_, Lib.hid rfl⟩
  obtain ⟨g, hg⟩ : ∃ g : Bool, Hid (g = decide (m < 0)) := ⟨_, Lib.hid rfl⟩
  have SB : Hid (∀ w, Calls Tryd.prog 27 #[.agg #[.int .i64 3, .int .i64 m, .string ⟨#[]⟩]] w (Ans (.agg #[.bool g, .int .u64 d0, .int .u64 d1, .int .u64 d2, .int .u64 0, .int .u64 0, .int .u64 0]) w)) := Lib.hid fun w => by rw [hd0.out, hd1.out, hd2.out, hg.out]; exact refBig_scaled 3 m _ hm w
  obtain ⟨z, Z, ad, sg⟩ := refBig_diff 3 n 3 m (by decide) (by decide) hn hm
  have AD : Hid (∀ w, Calls Tryd.prog 28 #[.agg (magC (decide (n < 0)) (sclN 3 n)), .agg #[.bool (!g), .int .u64 d0, .int .u64 d1, .int .u64 d2, .int .u64 0, .int .u64 0, .int .u64 0]] w (Ans (.agg (magC z Z)) w)) := Lib.hid fun w => by rw [hd0.out, hd1.out, hd2.out, hg.out]; exact ad w
  have SG := Lib.hid sg
  have FN : Hid (∀ w, Calls Tryd.prog 19 #[] w (Ans (.agg #[.int .i64 0, .int .i64 (-1)]) w)) := Lib.hid refBig_fine
  obtain ⟨X, hX⟩ : ∃ X, Hid (X = magC (decide (n < 0)) (sclN 3 n)) := ⟨_, Lib.hid rfl⟩
  rw [← hX.out] at SA AD
  obtain ⟨U, hU⟩ : ∃ U, Hid (U = magC z Z) := ⟨_, Lib.hid rfl⟩
  rw [← hU.out] at SG AD
  generalize signN 3 n 3 m = res at *
  clear ad sg hd0 hd1 hd2 hg hn hm hX hU
  go_enter Tryd.func8, Tryd.ntmps8
  go_wp2_with (first
      | (go_at_call 18; first | ((with_reducible refine (RA.out _).mono ?_); rintro e w2 ⟨rfl, hb⟩) | ((with_reducible refine (RB.out _).mono ?_); rintro e w2 ⟨rfl, hb⟩)
         have HX := Lib.hid (HX.out.next hb)
         obtain ⟨a0, a1, a2⟩ := box3 HX.out.a
         obtain ⟨b0, b1, b2⟩ := box3 HX.out.b
         clear hb)
      | (go_at_call 27; (with_reducible refine (SB.out _).mono ?_); rintro e w5 ⟨rfl, hb⟩
         have HX := Lib.hid (HX.out.next hb)
         obtain ⟨a0, a1, a2⟩ := box3 HX.out.a
         obtain ⟨b0, b1, b2⟩ := box3 HX.out.b
         clear hb))
  obtain ⟨W0, hW0⟩ : ∃ W0, W0 = w5.alloc (.cells #[.bool !g, .int .u64 d0, .int .u64 d1, .int .u64 d2, .int .u64 0, .int .u64 0, .int .u64 0] 58) := ⟨_, rfl⟩
  obtain ⟨p, hp⟩ : ∃ p, p = w5.heap.size := ⟨_, rfl⟩
  have HY := Lib.hid (GY.new HX.out (!g) d0 d1 d2)
  rw [← hW0, ← hp] at HY
  rw [← hW0]
  rw [← hp]
  clear hW0 hp a0 a1 a2 b0 b1 b2
  obtain ⟨a0, a1, a2⟩ := box3 HY.out.x.a
  obtain ⟨b0, b1, b2⟩ := box3 HY.out.x.b
  obtain ⟨r0, r1⟩ := box2 HY.out.x.r
  have z0 := frozen3 HY.out.x.r 0
  have z1 := frozen3 HY.out.x.r 1
  obtain ⟨q0, q1, q2, q3, q4, q5, q6⟩ := box7 HY.out.o
  go_region_law (first
      | (go_simp; go_at_call 27; (with_reducible refine (SA.out _).mono ?_); rintro e w6 ⟨rfl, hb⟩
         have HY := Lib.hid (by first | exact HY.out.next hb | exact HY.out.drew.next hb)
         obtain ⟨a0, a1, a2⟩ := box3 HY.out.x.a
         obtain ⟨b0, b1, b2⟩ := box3 HY.out.x.b
         obtain ⟨r0, r1⟩ := box2 HY.out.x.r
         have z0 := frozen3 HY.out.x.r 0
         have z1 := frozen3 HY.out.x.r 1
         obtain ⟨q0, q1, q2, q3, q4, q5, q6⟩ := box7 HY.out.o
         clear hb)
      | (go_simp; go_at_call 28; (with_reducible refine (AD.out _).mono ?_); rintro e w7 ⟨rfl, hb⟩
         have HY := Lib.hid (by first | exact HY.out.next hb | exact HY.out.drew.next hb)
         obtain ⟨a0, a1, a2⟩ := box3 HY.out.x.a
         obtain ⟨b0, b1, b2⟩ := box3 HY.out.x.b
         obtain ⟨r0, r1⟩ := box2 HY.out.x.r
         have z0 := frozen3 HY.out.x.r 0
         have z1 := frozen3 HY.out.x.r 1
         obtain ⟨q0, q1, q2, q3, q4, q5, q6⟩ := box7 HY.out.o
         clear hb)
      | (go_simp; go_at_call 29; (with_reducible refine (SG.out _).mono ?_); rintro e w8 ⟨rfl, hb⟩
         have HY := Lib.hid (by first | exact HY.out.next hb | exact HY.out.drew.next hb)
         obtain ⟨a0, a1, a2⟩ := box3 HY.out.x.a
         obtain ⟨b0, b1, b2⟩ := box3 HY.out.x.b
         obtain ⟨r0, r1⟩ := box2 HY.out.x.r
         have z0 := frozen3 HY.out.x.r 0
         have z1 := frozen3 HY.out.x.r 1
         obtain ⟨q0, q1, q2, q3, q4, q5, q6⟩ := box7 HY.out.o
         clear hb)
      | (go_simp; go_at_call 19; (with_reducible refine (FN.out _).mono ?_); rintro e w9 ⟨rfl, hb⟩
         have HY := Lib.hid (by first | exact HY.out.next hb | exact HY.out.drew.next hb)
         obtain ⟨a0, a1, a2⟩ := box3 HY.out.x.a
         obtain ⟨b0, b1, b2⟩ := box3 HY.out.x.b
         obtain ⟨r0, r1⟩ := box2 HY.out.x.r
         have z0 := frozen3 HY.out.x.r 0
         have z1 := frozen3 HY.out.x.r 1
         obtain ⟨q0, q1, q2, q3, q4, q5, q6⟩ := box7 HY.out.o
         clear hb))
  all_goals
    go_wp2_with fail
    exact bodyPost_ret (v := .tuple #[.int .i64 res, .agg #[.int .i64 0, .int .i64 (-1)]]) (by simp [results, Tryd.results8, go_sem, r0, r1]) rfl ⟨rfl, set2_bel HY.out.x.bel (by omega) _ _⟩
end Go.Proofs.YtjfbhajaddgmpaaDoor
