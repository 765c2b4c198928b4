/- Package coordinator: vote of those that only read. -/
import Derived.Test.YtknolgcbaoppcaaGreatOY
namespace Go.Proofs.YtknolgcbaoppcaaGreat
open Go.RowKit

set_option maxRecDepth 100000 in
set_option maxHeartbeats 16000000 in
theorem vote_read {w : World} {B : Nat} {S : CoS} (h : Co w B S) (t : Int) {f x : Nat} (hf16 : f < 16) (hx : i64ok (x : Int)) {a o : Nat} (ho : o < 65536) (y s : Nat) (hof : o.testBit f = true) (hw0 : woB o f ≠ 0) (hT : S.T.length < 1000) :
    Calls Tryz.prog 26 #[.pointer (some ⟨S.c, 0, none⟩), .agg #[.int .i64 4, .int .i64 (f : Int), .int .i64 t, .int .i64 (x : Int), .slice none 0 0], .agg #[.int .i64 2, .int .i64 (a : Int), .int .i64 (o : Int), .int .i64 (y : Int), .int .i64 (s : Int)]] w (fun e w' => e = .returned (.int .i64 0) ∧ LtT w B S (putT S.T ⟨x, 2, a, woB o f, y, s⟩) [] w') := by
  have HH := Lib.hid (fun W => has_any (n := f) ho hf16 W)
  rw [hof] at HH
  have HWP := Lib.hid (fun W => without_any (n := f) ho hf16 W)
  have hz0 : (((woB o f : Nat) : Int) == 0) = false := by simp; omega
  obtain ⟨X, hX⟩ : ∃ X : Int, X = (x : Int) := ⟨_, rfl⟩
  have HX := Lib.hid hX
  obtain ⟨L5, hL5⟩ : ∃ L5, L5 = Obj.cells #[.int .i64 4, .int .i64 (f : Int), .int .i64 t, .int .i64 X, .slice none 0 0] 36 := ⟨_, rfl⟩
  obtain ⟨T5, hT5⟩ : ∃ T5, T5 = Obj.cells #[.int .i64 2, .int .i64 (a : Int), .int .i64 (o : Int), .int .i64 (y : Int), .int .i64 (s : Int)] 61 := ⟨_, rfl⟩
  have hb2 := alloc2_below w L5 T5
  have hl5 : ((w.alloc L5).alloc T5).heap[w.heap.size]? = some L5 := ((alloc_below (w.alloc L5) T5).block _ (by simp)).trans (heap_alloc_new w L5)
  have ht5 := heap_alloc_new (w.alloc L5) T5
  rw [show (w.alloc L5).heap.size = w.heap.size + 1 by simp] at ht5
  have HCW : Hid (∀ W, Below w.heap.size w W → Co W B S) := Lib.hid fun W hb => h.below hb
  rw [hT5] at ht5
  have f2 := frozen_of ht5 2
  rw [hL5] at ht5 f2
  obtain ⟨_, _, z2, _, _⟩ := box5 ht5
  have HST : Hid (∀ W, Below w.heap.size w W → ∃ w2, (Instr.mapUpdate 55 (.map (some S.m)) (.int .i64 X) (.agg #[.int .i64 2, .int .i64 (a : Int), .int .i64 ((woB o f : Nat) : Int), .int .i64 (y : Int), .int .i64 (s : Int)])).run Tryz.prog W = .ok () w2 ∧ Co w2 B { S with T := putT S.T ⟨x, 2, a, woB o f, y, s⟩ } ∧ Only (· = S.m) W w2) := Lib.hid fun W hb => by
    have hc := h.below hb
    obtain ⟨w2, h1, h2, h3⟩ := hc.map.store hT hx 2 a (woB o f) y s (.agg #[.int .i64 2, .int .i64 (a : Int), .int .i64 ((woB o f : Nat) : Int), .int .i64 (y : Int), .int .i64 (s : Int)]) rfl
    exact ⟨w2, by rw [hX]; exact h1, hc.mapped h3 h2, h3⟩
  rw [← hX]
  clear h hf16 hx ho hof hX hL5 hT5 hl5 ht5 hb2 hw0 hT
  go_enter Tryz.func26, Tryz.ntmps26
  go_upto_region 12 with (first
    | (go_at_call 46; refine (HH.out _).mono ?_; rintro e1 w1 ⟨rfl, rfl⟩)
    | (go_at_call 47; refine (HWP.out _).mono ?_; rintro e1 w1 ⟨rfl, rfl⟩))
  clear z2 f2
  obtain ⟨W0, hW0⟩ : ∃ W0, Hid (W0 = (w.alloc (.cells #[.int .i64 4, .int .i64 (f : Int), .int .i64 t, .int .i64 X, .slice none 0 0] 36)).alloc (.cells #[.int .i64 2, .int .i64 (a : Int), .int .i64 ((woB o f : Nat) : Int), .int .i64 (y : Int), .int .i64 (s : Int)] 61)) := ⟨_, Lib.hid rfl⟩
  rw [← hW0.out]
  have hb0 : Below w.heap.size w W0 := by rw [hW0.out]; exact alloc2_below w _ _
  have hl0 : W0.heap[w.heap.size]? = some (.cells #[.int .i64 4, .int .i64 (f : Int), .int .i64 t, .int .i64 X, .slice none 0 0] 36 (0, 0)) := by rw [hW0.out]; exact ((alloc_below (w.alloc _) _).block _ (by simp)).trans (heap_alloc_new w _)
  have ht0 : W0.heap[w.heap.size + 1]? = some (.cells #[.int .i64 2, .int .i64 (a : Int), .int .i64 ((woB o f : Nat) : Int), .int .i64 (y : Int), .int .i64 (s : Int)] 61 (0, 0)) := by
    have h1 := heap_alloc_new (w.alloc (.cells #[.int .i64 4, .int .i64 (f : Int), .int .i64 t, .int .i64 X, .slice none 0 0] 36)) (.cells #[.int .i64 2, .int .i64 (a : Int), .int .i64 ((woB o f : Nat) : Int), .int .i64 (y : Int), .int .i64 (s : Int)] 61)
    rw [show (w.alloc (.cells #[.int .i64 4, .int .i64 (f : Int), .int .i64 t, .int .i64 X, .slice none 0 0] 36)).heap.size = w.heap.size + 1 by simp] at h1
    rw [hW0.out]; exact h1
  obtain ⟨gl, hgl⟩ : ∃ gl, gl = w.heap.size := ⟨_, rfl⟩
  obtain ⟨gt, hgt⟩ : ∃ gt, gt = w.heap.size + 1 := ⟨_, rfl⟩
  obtain ⟨A1, hA1⟩ : ∃ A1 : Int, A1 = (a : Int) := ⟨_, rfl⟩
  obtain ⟨O1, hO1⟩ : ∃ O1 : Int, O1 = ((woB o f : Nat) : Int) := ⟨_, rfl⟩
  obtain ⟨Y1, hY1⟩ : ∃ Y1 : Int, Y1 = (y : Int) := ⟨_, rfl⟩
  obtain ⟨S1, hS1⟩ : ∃ S1 : Int, S1 = (s : Int) := ⟨_, rfl⟩
  rw [← hA1, ← hO1, ← hY1, ← hS1] at HST
  rw [← hO1, ← hA1, ← hY1, ← hS1] at ht0
  have hl1 : W0.drew.heap[gl]? = some (.cells #[.int .i64 4, .int .i64 (f : Int), .int .i64 t, .int .i64 X, .slice none 0 0] 36 (0, 0)) := by rw [hgl]; exact hl0
  have ht1 := (show W0.drew.heap[w.heap.size + 1]? = W0.heap[w.heap.size + 1]? from rfl).trans ht0
  rw [← hgt] at ht1
  have hbd := hb0.trans ((drew_below W0).mono hb0.size)
  have hcd := HCW.out _ hbd
  obtain ⟨w2, hmp, hc2, hOm⟩ := HST.out _ hbd
  have HBW := Lib.hid hbd
  have HE : Hid (LtT w B S (putT S.T ⟨x, 2, a, woB o f, y, s⟩) [] w2) := Lib.hid ⟨S.ov, [], by rw [List.append_nil]; exact hc2, rfl, (Only.of_below hbd).trans hOm fun j _ hj => .inr (.inl hj), fun j hj => .inl hj⟩
  have hml : S.m < w.heap.size := (HCW.out w (Below.refl _ _)).map.lt
  have hSS : (fun W : World => W.cell? ⟨S.c, 5, none⟩ = some (.map (some S.m)) ∧ W.cell? ⟨gl, 3, none⟩ = some (.int .i64 X) ∧ W.cell? ⟨gt, 0, none⟩ = some (.int .i64 2) ∧ W.cell? ⟨gt, 1, none⟩ = some (.int .i64 A1) ∧ W.cell? ⟨gt, 2, none⟩ = some (.int .i64 O1) ∧ W.cell? ⟨gt, 3, none⟩ = some (.int .i64 Y1) ∧ W.cell? ⟨gt, 4, none⟩ = some (.int .i64 S1)) W0.drew := by
    obtain ⟨_, _, _, _, _, c5, _⟩ := box7_ hcd.box
    obtain ⟨_, l1, _, l3, _⟩ := box5 hl1
    obtain ⟨t0, t1, t2, t3, t4⟩ := box5 ht1
    exact ⟨c5, l3, t0, t1, t2, t3, t4⟩
  have hS2 : Hid ((fun W : World => W.cell? ⟨S.c, 5, none⟩ = some (.map (some S.m)) ∧ W.cell? ⟨gl, 3, none⟩ = some (.int .i64 X) ∧ W.cell? ⟨gt, 0, none⟩ = some (.int .i64 2) ∧ W.cell? ⟨gt, 1, none⟩ = some (.int .i64 A1) ∧ W.cell? ⟨gt, 2, none⟩ = some (.int .i64 O1) ∧ W.cell? ⟨gt, 3, none⟩ = some (.int .i64 Y1) ∧ W.cell? ⟨gt, 4, none⟩ = some (.int .i64 S1)) w2) := Lib.hid (by
    obtain ⟨_, _, _, _, _, c5, _⟩ := box7_ hc2.box
    have e1 := (hOm.block gl (by rw [hgl]; exact lt_of_heap hl0) (fun hj => by omega)).trans hl1
    have e2 := (hOm.block gt (by rw [hgt]; exact lt_of_heap ht0) (fun hj => by omega)).trans ht1
    obtain ⟨_, l1, _, l3, _⟩ := box5 e1
    obtain ⟨t0, t1, t2, t3, t4⟩ := box5 e2
    exact ⟨c5, l3, t0, t1, t2, t3, t4⟩)
  rw [← hgt, ← hgl]
  clear hb0 hl0 ht0 hl1 ht1 hgl hgt hcd hc2 hOm hbd hml HH HWP HCW HST hA1 hO1 hY1 hS1 hz0
  refine wp_region_held_drew (S := (fun W : World => W.cell? ⟨S.c, 5, none⟩ = some (.map (some S.m)) ∧ W.cell? ⟨gl, 3, none⟩ = some (.int .i64 X) ∧ W.cell? ⟨gt, 0, none⟩ = some (.int .i64 2) ∧ W.cell? ⟨gt, 1, none⟩ = some (.int .i64 A1) ∧ W.cell? ⟨gt, 2, none⟩ = some (.int .i64 O1) ∧ W.cell? ⟨gt, 3, none⟩ = some (.int .i64 Y1) ∧ W.cell? ⟨gt, 4, none⟩ = some (.int .i64 S1))) (by kernel_rfl) hSS (fun _ => ?_)
  refine wpAnyH_take (i := 0) (oi := ({ dst := Option.some 56, op := Go.Op.move (Go.Operand.tmp 0), type := 23, pos := "decision.go:22", after := #[], guard := Option.none } : Oper)) (v := ?v0x1) rfl (by kernel_rfl) (by kernel_rfl) (by kernel_rfl) (fun _ _ _ h => h) (Or.inl ⟨by rfl, ?hy0x1⟩) hSS ?rest0x1
  case hy0x1 =>
    intro W0 hSw
    obtain ⟨s0, s1, s2, s3, s4, s5, s6⟩ := hSw
    go_simp
    first | done | with_reducible rfl
  try simp only [Act.put, List.setIfInBounds_toArray, List.set_cons_zero, List.set_cons_succ]
  refine wpAnyH_take (i := 1) (oi := ({ dst := Option.some 57, op := Go.Op.nilCheck (Go.Operand.tmp 56), type := 0, pos := "decision.go:22", after := #[{ on := 0, ground := Go.Ground.data }], guard := Option.none } : Oper)) (v := ?v1x2) rfl (by kernel_rfl) (by kernel_rfl) (by kernel_rfl) (fun _ _ _ h => h) (Or.inl ⟨by rfl, ?hy1x2⟩) hSS ?rest1x2
  case hy1x2 =>
    intro W0 hSw
    obtain ⟨s0, s1, s2, s3, s4, s5, s6⟩ := hSw
    go_simp
    first | done | with_reducible rfl
  try simp only [Act.put, List.setIfInBounds_toArray, List.set_cons_zero, List.set_cons_succ]
  refine wpAnyH_take (i := 2) (oi := ({ dst := Option.some 58, op := Go.Op.fieldAddr 57 (Go.Operand.tmp 57) 5, type := 0, pos := "decision.go:22", after := #[{ on := 1, ground := Go.Ground.data }], guard := Option.none } : Oper)) (v := ?v2x3) rfl (by kernel_rfl) (by kernel_rfl) (by kernel_rfl) (fun _ _ _ h => h) (Or.inl ⟨by rfl, ?hy2x3⟩) hSS ?rest2x3
  case hy2x3 =>
    intro W0 hSw
    obtain ⟨s0, s1, s2, s3, s4, s5, s6⟩ := hSw
    go_simp
    first | done | with_reducible rfl
  try simp only [Act.put, List.setIfInBounds_toArray, List.set_cons_zero, List.set_cons_succ]
  refine wpAnyH_take (i := 3) (oi := ({ dst := Option.some 59, op := Go.Op.load 55 (Go.Operand.tmp 58), type := 55, pos := "decision.go:22", after := #[{ on := 2, ground := Go.Ground.data }], guard := Option.none } : Oper)) (v := ?v3x4) rfl (by kernel_rfl) (by kernel_rfl) (by kernel_rfl) (fun _ _ _ h => h) (Or.inl ⟨by rfl, ?hy3x4⟩) hSS ?rest3x4
  case hy3x4 =>
    intro W0 hSw
    obtain ⟨s0, s1, s2, s3, s4, s5, s6⟩ := hSw
    go_simp
    first | done | with_reducible rfl
  try simp only [Act.put, List.setIfInBounds_toArray, List.set_cons_zero, List.set_cons_succ]
  refine wpAnyH_take (i := 4) (oi := ({ dst := Option.some 60, op := Go.Op.fieldAddr 36 (Go.Operand.tmp 4) 3, type := 0, pos := "decision.go:22", after := #[], guard := Option.none } : Oper)) (v := ?v4x5) rfl (by kernel_rfl) (by kernel_rfl) (by kernel_rfl) (fun _ _ _ h => h) (Or.inl ⟨by rfl, ?hy4x5⟩) hSS ?rest4x5
  case hy4x5 =>
    intro W0 hSw
    obtain ⟨s0, s1, s2, s3, s4, s5, s6⟩ := hSw
    go_simp
    first | done | with_reducible rfl
  try simp only [Act.put, List.setIfInBounds_toArray, List.set_cons_zero, List.set_cons_succ]
  refine wpAnyH_take (i := 5) (oi := ({ dst := Option.some 61, op := Go.Op.load 3 (Go.Operand.tmp 60), type := 3, pos := "decision.go:22", after := #[{ on := 4, ground := Go.Ground.data }], guard := Option.none } : Oper)) (v := ?v5x6) rfl (by kernel_rfl) (by kernel_rfl) (by kernel_rfl) (fun _ _ _ h => h) (Or.inl ⟨by rfl, ?hy5x6⟩) hSS ?rest5x6
  case hy5x6 =>
    intro W0 hSw
    obtain ⟨s0, s1, s2, s3, s4, s5, s6⟩ := hSw
    go_simp
    first | done | with_reducible rfl
  try simp only [Act.put, List.setIfInBounds_toArray, List.set_cons_zero, List.set_cons_succ]
  refine wpAnyH_take (i := 6) (oi := ({ dst := Option.some 62, op := Go.Op.load 61 (Go.Operand.tmp 5), type := 61, pos := "decision.go:22", after := #[], guard := Option.none } : Oper)) (v := ?v6x7) rfl (by kernel_rfl) (by kernel_rfl) (by kernel_rfl) (fun _ _ _ h => h) (Or.inl ⟨by rfl, ?hy6x7⟩) hSS ?rest6x7
  case hy6x7 =>
    intro W0 hSw
    obtain ⟨s0, s1, s2, s3, s4, s5, s6⟩ := hSw
    go_simp
    first | done | with_reducible rfl
  try simp only [Act.put, List.setIfInBounds_toArray, List.set_cons_zero, List.set_cons_succ]
  refine wpAnyH_ready (rs := [7]) (by kernel_rfl) (by simp) ?_
  refine AllReadyH.cons (o := ({ dst := Option.none, op := Go.Op.mapUpdate 55 (Go.Operand.tmp 59) (Go.Operand.tmp 61) (Go.Operand.tmp 62), type := 0, pos := "decision.go:22", after := #[{ on := 3, ground := Go.Ground.data }, { on := 5, ground := Go.Ground.data }, { on := 6, ground := Go.Ground.data }, { on := 0, ground := Go.Ground.phase }, { on := 1, ground := Go.Ground.phase }, { on := 2, ground := Go.Ground.phase }, { on := 3, ground := Go.Ground.phase }, { on := 4, ground := Go.Ground.phase }, { on := 5, ground := Go.Ground.phase }, { on := 6, ground := Go.Ground.phase }], guard := Option.none } : Oper)) rfl (fun K0 hK0 => ?_) AllReadyH.nil
  go_simp
  refine hK0.out _ _ hS2.out (fun _ => ?_)
  clear hK0 K0
  try simp only [Act.put, List.setIfInBounds_toArray, List.set_cons_zero, List.set_cons_succ]
  refine wpAnyH_done (by kernel_rfl) ?_ _
  go_wp2_with fail
  go_ret
  exact ⟨rfl, HE.out⟩
set_option maxRecDepth 100000 in
set_option maxHeartbeats 8000000 in
theorem commit_nil {w : World} {B : Nat} {S : CoS} (h : Co w B S) {x : Nat} (hx : i64ok (x : Int)) :
    Calls Tryz.prog 48 #[.pointer (some ⟨S.c, 0, none⟩), .int .i64 (x : Int), .int .i64 0] w (fun e w' => e = .returned (.int .i64 0) ∧ LtT w B S (dropT S.T x) [] w') := by
  obtain ⟨_, _, _, _, _, c5, _⟩ := box7_ h.box
  obtain ⟨D, hown, hrep⟩ := h.map
  have hk := keyZT hx
  have HSN : Hid (∀ w1, w1.ownsMap Tryz.prog 3 trE S.m S.T.length (D.del (.int .i64 (x : Int))) → w.mapTurned w1 S.m → LtT w B S (dropT S.T x) [] w1) := Lib.hid fun w1 hown1 hturn => by
    have hO : Only (· = S.m) w w1 := (Only.of_grown hturn.grown).more fun j _ hj => by injection hj
    have hp := hrep.del x
    have h1 := ownsMap_tightT hown1
    have h5 : Maps.size (D.del (.int .i64 (x : Int))) = _ := hp.size
    rw [h5] at h1
    exact ⟨S.ov, [], by rw [List.append_nil]; exact h.mapped hO ⟨_, h1, hp⟩, rfl, hO.more fun j _ hj => .inr (.inl hj), fun j hj => .inl hj⟩
  clear h hx hrep
  go_enter Tryz.func48, Tryz.ntmps48
  go_wp2_with (first
    | (at_delete; refine wpList_delete_own _ rfl _ _ 55 3 rfl 61 lawKT Tryz.underlying55 trE S.m S.T.length D rfl hown _ _ rfl hk ?_; intro w1 hown1 hturn1
       have HS1 := Lib.hid (HSN.out w1 hown1 hturn1)
       clear hown1 hturn1))
  go_ret
  exact ⟨rfl, HS1.out⟩
set_option maxRecDepth 100000 in
set_option maxHeartbeats 16000000 in
theorem vote_last {w : World} {B : Nat} {S : CoS} (h : Co w B S) (t : Int) {f x : Nat} (hf16 : f < 16) (hx : i64ok (x : Int)) {a o : Nat} (ho : o < 65536) (s : Nat) (hof : o.testBit f = true) (hw0 : woB o f = 0) :
    Calls Tryz.prog 26 #[.pointer (some ⟨S.c, 0, none⟩), .agg #[.int .i64 4, .int .i64 (f : Int), .int .i64 t, .int .i64 (x : Int), .slice none 0 0], .agg #[.int .i64 2, .int .i64 (a : Int), .int .i64 (o : Int), .int .i64 0, .int .i64 (s : Int)]] w (fun e w' => e = .returned (.int .i64 0) ∧ LtT w B S (dropT S.T x) [] w') := by
  have HH := Lib.hid (fun W => has_any (n := f) ho hf16 W)
  rw [hof] at HH
  have HWP := Lib.hid (fun W => without_any (n := f) ho hf16 W)
  rw [hw0] at HWP
  obtain ⟨X, hX⟩ : ∃ X : Int, X = (x : Int) := ⟨_, rfl⟩
  have HCM : Hid (∀ W, Below w.heap.size w W → Calls Tryz.prog 48 #[.pointer (some ⟨S.c, 0, none⟩), .int .i64 X, .int .i64 0] W (fun e w' => e = .returned (.int .i64 0) ∧ LtT w B S (dropT S.T x) [] w')) := Lib.hid fun W hb => by
    rw [hX]
    exact (commit_nil (h.below hb) hx).mono fun e w1 hl => ⟨hl.1, hl.2.pre hb⟩
  rw [← hX]
  have HB0 : Hid (Below w.heap.size w ((w.alloc (.cells #[.int .i64 4, .int .i64 (f : Int), .int .i64 t, .int .i64 X, .slice none 0 0] 36)).alloc (.cells #[.int .i64 2, .int .i64 (a : Int), .int .i64 ((0 : Nat) : Int), .int .i64 0, .int .i64 (s : Int)] 61))) := Lib.hid (alloc2_below _ _ _)
  clear h hf16 hx ho hof hw0 hX
  go_enter Tryz.func26, Tryz.ntmps26
  go_wp2_with (first
    | (go_at_call 46; refine (HH.out _).mono ?_; rintro e1 w1 ⟨rfl, rfl⟩)
    | (go_at_call 47; refine (HWP.out _).mono ?_; rintro e1 w1 ⟨rfl, rfl⟩)
    | (go_at_call 48; refine (HCM.out _ (by exact HB0.out)).mono ?_; rintro e1 w1 ⟨rfl, hl⟩
       have HE := Lib.hid hl
       clear hl))
  go_ret
  exact ⟨rfl, HE.out⟩
end Go.Proofs.YtknolgcbaoppcaaGreat
