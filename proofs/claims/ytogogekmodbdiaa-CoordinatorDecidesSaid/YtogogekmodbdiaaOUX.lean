/- The coordinator: votes of those that only read, Pending, Tick. -/
import Derived.Test.YtogogekmodbdiaaOY
import Derived.Test.YtogogekmodbdiaaZX
import Derived.Lib.SlKeysI
import Derived.Test.YtogogekmodbdiaaShelf
namespace Go.Proofs.Ytogogekmodbdiaa
section
open Go.RowKit
set_option maxRecDepth 100000 in
set_option maxHeartbeats 16000000 in
theorem vote_read {w : World} {B : Nat} {S : CoS} (h : Co w B S) (t : Int) {f x : Nat} (hf16 : f < 16) (hx : i64ok (x : Int)) {a o : Nat} (ho : o < 65536) (y s : Nat) (hof : o.testBit f = true) (hw0 : woB o f ≠ 0) (hT : S.T.length < 1000) :
    Calls Try.prog 29 #[.pointer (some ⟨S.c, 0, none⟩), .agg #[.int .i64 4, .int .i64 (f : Int), .int .i64 t, .int .i64 (x : Int), .slice none 0 0], .agg #[.int .i64 2, .int .i64 (a : Int), .int .i64 (o : Int), .int .i64 (y : Int), .int .i64 (s : Int)]] w (fun e w' => e = .returned (.int .i64 0) ∧ LtT w B S (putT S.T ⟨x, 2, a, woB o f, y, s⟩) [] w') := by
  have HH := Lib.hid (fun W => has_any (n := f) ho hf16 W)
  rw [hof] at HH
  have HWP := Lib.hid (fun W => without_any (n := f) ho hf16 W)
  have hz0 : (((woB o f : Nat) : Int) == 0) = false := by simp; omega
  obtain ⟨X, hX⟩ : ∃ X : Int, X = (x : Int) := ⟨_, rfl⟩
  have HX := Lib.hid hX
  obtain ⟨L5, hL5⟩ : ∃ L5, L5 = Obj.cells #[.int .i64 4, .int .i64 (f : Int), .int .i64 t, .int .i64 X, .slice none 0 0] 46 := ⟨_, rfl⟩
  obtain ⟨T5, hT5⟩ : ∃ T5, T5 = Obj.cells #[.int .i64 2, .int .i64 (a : Int), .int .i64 (o : Int), .int .i64 (y : Int), .int .i64 (s : Int)] 67 := ⟨_, rfl⟩
  have hb2 := alloc2_below w L5 T5
  have hl5 : ((w.alloc L5).alloc T5).heap[w.heap.size]? = some L5 := ((alloc_below (w.alloc L5) T5).block _ (by simp)).trans (heap_alloc_new w L5)
  have ht5 := heap_alloc_new (w.alloc L5) T5
  rw [show (w.alloc L5).heap.size = w.heap.size + 1 by simp] at ht5
  have HCW : Hid (∀ W, Below w.heap.size w W → Co W B S) := Lib.hid fun W hb => h.below hb
  rw [hT5] at ht5
  have f2 := frozen_of ht5 2
  rw [hL5] at ht5 f2
  obtain ⟨_, _, z2, _, _⟩ := box5 ht5
  have HST : Hid (∀ W, Below w.heap.size w W → ∃ w2, (Instr.mapUpdate 61 (.map (some S.m)) (.int .i64 X) (.agg #[.int .i64 2, .int .i64 (a : Int), .int .i64 ((woB o f : Nat) : Int), .int .i64 (y : Int), .int .i64 (s : Int)])).run Try.prog W = .ok () w2 ∧ Co w2 B { S with T := putT S.T ⟨x, 2, a, woB o f, y, s⟩ } ∧ Only (· = S.m) W w2) := Lib.hid fun W hb => by
    have hc := h.below hb
    obtain ⟨w2, h1, h2, h3⟩ := hc.map.store hT hx 2 a (woB o f) y s (.agg #[.int .i64 2, .int .i64 (a : Int), .int .i64 ((woB o f : Nat) : Int), .int .i64 (y : Int), .int .i64 (s : Int)]) rfl
    exact ⟨w2, by rw [hX]; exact h1, hc.mapped h3 h2, h3⟩
  rw [← hX]
  clear h hf16 hx ho hof hX hL5 hT5 hl5 ht5 hb2 hw0 hT
  go_enter Try.func29, Try.ntmps29
  go_upto_region 12 with (first
    | (go_at_call 47; refine (HH.out _).mono ?_; rintro e1 w1 ⟨rfl, rfl⟩)
    | (go_at_call 48; refine (HWP.out _).mono ?_; rintro e1 w1 ⟨rfl, rfl⟩))
  clear z2 f2
  obtain ⟨W0, hW0⟩ : ∃ W0, Hid (W0 = (w.alloc (.cells #[.int .i64 4, .int .i64 (f : Int), .int .i64 t, .int .i64 X, .slice none 0 0] 46)).alloc (.cells #[.int .i64 2, .int .i64 (a : Int), .int .i64 ((woB o f : Nat) : Int), .int .i64 (y : Int), .int .i64 (s : Int)] 67)) := ⟨_, Lib.hid rfl⟩
  rw [← hW0.out]
  have hb0 : Below w.heap.size w W0 := by rw [hW0.out]; exact alloc2_below w _ _
  have hl0 : W0.heap[w.heap.size]? = some (.cells #[.int .i64 4, .int .i64 (f : Int), .int .i64 t, .int .i64 X, .slice none 0 0] 46 (0, 0)) := by rw [hW0.out]; exact ((alloc_below (w.alloc _) _).block _ (by simp)).trans (heap_alloc_new w _)
  have ht0 : W0.heap[w.heap.size + 1]? = some (.cells #[.int .i64 2, .int .i64 (a : Int), .int .i64 ((woB o f : Nat) : Int), .int .i64 (y : Int), .int .i64 (s : Int)] 67 (0, 0)) := by
    have h1 := heap_alloc_new (w.alloc (.cells #[.int .i64 4, .int .i64 (f : Int), .int .i64 t, .int .i64 X, .slice none 0 0] 46)) (.cells #[.int .i64 2, .int .i64 (a : Int), .int .i64 ((woB o f : Nat) : Int), .int .i64 (y : Int), .int .i64 (s : Int)] 67)
    rw [show (w.alloc (.cells #[.int .i64 4, .int .i64 (f : Int), .int .i64 t, .int .i64 X, .slice none 0 0] 46)).heap.size = w.heap.size + 1 by simp] at h1
    rw [hW0.out]; exact h1
  obtain ⟨gl, hgl⟩ : ∃ gl, gl = w.heap.size := ⟨_, rfl⟩
  obtain ⟨gt, hgt⟩ : ∃ gt, gt = w.heap.size + 1 := ⟨_, rfl⟩
  obtain ⟨A1, hA1⟩ : ∃ A1 : Int, A1 = (a : Int) := ⟨_, rfl⟩
  obtain ⟨O1, hO1⟩ : ∃ O1 : Int, O1 = ((woB o f : Nat) : Int) := ⟨_, rfl⟩
  obtain ⟨Y1, hY1⟩ : ∃ Y1 : Int, Y1 = (y : Int) := ⟨_, rfl⟩
  obtain ⟨S1, hS1⟩ : ∃ S1 : Int, S1 = (s : Int) := ⟨_, rfl⟩
  rw [← hA1, ← hO1, ← hY1, ← hS1] at HST
  rw [← hO1, ← hA1, ← hY1, ← hS1] at ht0
  have hl1 : W0.drew.heap[gl]? = some (.cells #[.int .i64 4, .int .i64 (f : Int), .int .i64 t, .int .i64 X, .slice none 0 0] 46 (0, 0)) := by rw [hgl]; exact hl0
  have ht1 := (show W0.drew.heap[w.heap.size + 1]? = W0.heap[w.heap.size + 1]? from rfl).trans ht0
  rw [← hgt] at ht1
  have hbd := hb0.trans ((drew_below W0).mono hb0.size)
  have hcd := HCW.out _ hbd
  obtain ⟨w2, hmp, hc2, hOm⟩ := HST.out _ hbd
  have HBW := Lib.hid hbd
  have HE : Hid (LtT w B S (putT S.T ⟨x, 2, a, woB o f, y, s⟩) [] w2) := Lib.hid ⟨S.ov, [], by rw [List.append_nil]; exact hc2, rfl, (Only.of_below hbd).trans hOm fun j _ hj => .inr (.inl hj), fun j hj => .inl hj⟩
  have hml : S.m < w.heap.size := (HCW.out w (Below.refl _ _)).map.lt
  have hSS : (fun W : World => W.cell? ⟨S.c, 5, none⟩ = some (.map (some S.m)) ∧ W.cell? ⟨gl, 3, none⟩ = some (.int .i64 X) ∧ W.cell? ⟨gt, 0, none⟩ = some (.int .i64 2) ∧ W.cell? ⟨gt, 1, none⟩ = some (.int .i64 A1) ∧ W.cell? ⟨gt, 2, none⟩ = some (.int .i64 O1) ∧ W.cell? ⟨gt, 3, none⟩ = some (.int .i64 Y1) ∧ W.cell? ⟨gt, 4, none⟩ = some (.int .i64 S1)) W0.drew := by
    obtain ⟨_, _, _, _, _, c5, _⟩ := box7_ hcd.box
    obtain ⟨_, l1, _, l3, _⟩ := box5 hl1
    obtain ⟨t0, t1, t2, t3, t4⟩ := box5 ht1
    exact ⟨c5, l3, t0, t1, t2, t3, t4⟩
  have hS2 : Hid ((fun W : World => W.cell? ⟨S.c, 5, none⟩ = some (.map (some S.m)) ∧ W.cell? ⟨gl, 3, none⟩ = some (.int .i64 X) ∧ W.cell? ⟨gt, 0, none⟩ = some (.int .i64 2) ∧ W.cell? ⟨gt, 1, none⟩ = some (.int .i64 A1) ∧ W.cell? ⟨gt, 2, none⟩ = some (.int .i64 O1) ∧ W.cell? ⟨gt, 3, none⟩ = some (.int .i64 Y1) ∧ W.cell? ⟨gt, 4, none⟩ = some (.int .i64 S1)) w2) := Lib.hid (by
    obtain ⟨_, _, _, _, _, c5, _⟩ := box7_ hc2.box
    have e1 := (hOm.block gl (by rw [hgl]; exact lt_of_heap hl0) (fun hj => by omega)).trans hl1
    have e2 := (hOm.block gt (by rw [hgt]; exact lt_of_heap ht0) (fun hj => by omega)).trans ht1
    obtain ⟨_, l1, _, l3, _⟩ := box5 e1
    obtain ⟨t0, t1, t2, t3, t4⟩ := box5 e2
    exact ⟨c5, l3, t0, t1, t2, t3, t4⟩)
  rw [← hgt, ← hgl]
  clear hb0 hl0 ht0 hl1 ht1 hgl hgt hcd hc2 hOm hbd hml HH HWP HCW HST hA1 hO1 hY1 hS1 hz0
  refine wp_region_held_drew (S := (fun W : World => W.cell? ⟨S.c, 5, none⟩ = some (.map (some S.m)) ∧ W.cell? ⟨gl, 3, none⟩ = some (.int .i64 X) ∧ W.cell? ⟨gt, 0, none⟩ = some (.int .i64 2) ∧ W.cell? ⟨gt, 1, none⟩ = some (.int .i64 A1) ∧ W.cell? ⟨gt, 2, none⟩ = some (.int .i64 O1) ∧ W.cell? ⟨gt, 3, none⟩ = some (.int .i64 Y1) ∧ W.cell? ⟨gt, 4, none⟩ = some (.int .i64 S1))) (by kernel_rfl) hSS (fun _ => ?_)
  refine wpAnyH_take (i := 0) (oi := ({ dst := Option.some 56, op := Go.Op.move (Go.Operand.tmp 0), type := 28, pos := "decision.go:22", after := #[], guard := Option.none } : Oper)) (v := ?v0x1) rfl (by kernel_rfl) (by kernel_rfl) (by kernel_rfl) (fun _ _ _ h => h) (Or.inl ⟨by rfl, ?hy0x1⟩) hSS ?rest0x1
  case hy0x1 =>
    intro W0 hSw
    obtain ⟨s0, s1, s2, s3, s4, s5, s6⟩ := hSw
    go_simp
    first | done | with_reducible rfl
  try simp only [Act.put, List.setIfInBounds_toArray, List.set_cons_zero, List.set_cons_succ]
  refine wpAnyH_take (i := 1) (oi := ({ dst := Option.some 57, op := Go.Op.nilCheck (Go.Operand.tmp 56), type := 0, pos := "decision.go:22", after := #[{ on := 0, ground := Go.Ground.data }], guard := Option.none } : Oper)) (v := ?v1x2) rfl (by kernel_rfl) (by kernel_rfl) (by kernel_rfl) (fun _ _ _ h => h) (Or.inl ⟨by rfl, ?hy1x2⟩) hSS ?rest1x2
  case hy1x2 =>
    intro W0 hSw
    obtain ⟨s0, s1, s2, s3, s4, s5, s6⟩ := hSw
    go_simp
    first | done | with_reducible rfl
  try simp only [Act.put, List.setIfInBounds_toArray, List.set_cons_zero, List.set_cons_succ]
  refine wpAnyH_take (i := 2) (oi := ({ dst := Option.some 58, op := Go.Op.fieldAddr 63 (Go.Operand.tmp 57) 5, type := 0, pos := "decision.go:22", after := #[{ on := 1, ground := Go.Ground.data }], guard := Option.none } : Oper)) (v := ?v2x3) rfl (by kernel_rfl) (by kernel_rfl) (by kernel_rfl) (fun _ _ _ h => h) (Or.inl ⟨by rfl, ?hy2x3⟩) hSS ?rest2x3
  case hy2x3 =>
    intro W0 hSw
    obtain ⟨s0, s1, s2, s3, s4, s5, s6⟩ := hSw
    go_simp
    first | done | with_reducible rfl
  try simp only [Act.put, List.setIfInBounds_toArray, List.set_cons_zero, List.set_cons_succ]
  refine wpAnyH_take (i := 3) (oi := ({ dst := Option.some 59, op := Go.Op.load 61 (Go.Operand.tmp 58), type := 61, pos := "decision.go:22", after := #[{ on := 2, ground := Go.Ground.data }], guard := Option.none } : Oper)) (v := ?v3x4) rfl (by kernel_rfl) (by kernel_rfl) (by kernel_rfl) (fun _ _ _ h => h) (Or.inl ⟨by rfl, ?hy3x4⟩) hSS ?rest3x4
  case hy3x4 =>
    intro W0 hSw
    obtain ⟨s0, s1, s2, s3, s4, s5, s6⟩ := hSw
    go_simp
    first | done | with_reducible rfl
  try simp only [Act.put, List.setIfInBounds_toArray, List.set_cons_zero, List.set_cons_succ]
  refine wpAnyH_take (i := 4) (oi := ({ dst := Option.some 60, op := Go.Op.fieldAddr 46 (Go.Operand.tmp 4) 3, type := 0, pos := "decision.go:22", after := #[], guard := Option.none } : Oper)) (v := ?v4x5) rfl (by kernel_rfl) (by kernel_rfl) (by kernel_rfl) (fun _ _ _ h => h) (Or.inl ⟨by rfl, ?hy4x5⟩) hSS ?rest4x5
  case hy4x5 =>
    intro W0 hSw
    obtain ⟨s0, s1, s2, s3, s4, s5, s6⟩ := hSw
    go_simp
    first | done | with_reducible rfl
  try simp only [Act.put, List.setIfInBounds_toArray, List.set_cons_zero, List.set_cons_succ]
  refine wpAnyH_take (i := 5) (oi := ({ dst := Option.some 61, op := Go.Op.load 3 (Go.Operand.tmp 60), type := 3, pos := "decision.go:22", after := #[{ on := 4, ground := Go.Ground.data }], guard := Option.none } : Oper)) (v := ?v5x6) rfl (by kernel_rfl) (by kernel_rfl) (by kernel_rfl) (fun _ _ _ h => h) (Or.inl ⟨by rfl, ?hy5x6⟩) hSS ?rest5x6
  case hy5x6 =>
    intro W0 hSw
    obtain ⟨s0, s1, s2, s3, s4, s5, s6⟩ := hSw
    go_simp
    first | done | with_reducible rfl
  try simp only [Act.put, List.setIfInBounds_toArray, List.set_cons_zero, List.set_cons_succ]
  refine wpAnyH_take (i := 6) (oi := ({ dst := Option.some 62, op := Go.Op.load 67 (Go.Operand.tmp 5), type := 67, pos := "decision.go:22", after := #[], guard := Option.none } : Oper)) (v := ?v6x7) rfl (by kernel_rfl) (by kernel_rfl) (by kernel_rfl) (fun _ _ _ h => h) (Or.inl ⟨by rfl, ?hy6x7⟩) hSS ?rest6x7
  case hy6x7 =>
    intro W0 hSw
    obtain ⟨s0, s1, s2, s3, s4, s5, s6⟩ := hSw
    go_simp
    first | done | with_reducible rfl
  try simp only [Act.put, List.setIfInBounds_toArray, List.set_cons_zero, List.set_cons_succ]
  refine wpAnyH_ready (rs := [7]) (by kernel_rfl) (by simp) ?_
  refine AllReadyH.cons (o := ({ dst := Option.none, op := Go.Op.mapUpdate 61 (Go.Operand.tmp 59) (Go.Operand.tmp 61) (Go.Operand.tmp 62), type := 0, pos := "decision.go:22", after := #[{ on := 3, ground := Go.Ground.data }, { on := 5, ground := Go.Ground.data }, { on := 6, ground := Go.Ground.data }, { on := 0, ground := Go.Ground.phase }, { on := 1, ground := Go.Ground.phase }, { on := 2, ground := Go.Ground.phase }, { on := 3, ground := Go.Ground.phase }, { on := 4, ground := Go.Ground.phase }, { on := 5, ground := Go.Ground.phase }, { on := 6, ground := Go.Ground.phase }], guard := Option.none } : Oper)) rfl (fun K0 hK0 => ?_) AllReadyH.nil
  go_simp
  refine hK0.out _ _ hS2.out (fun _ => ?_)
  clear hK0 K0
  try simp only [Act.put, List.setIfInBounds_toArray, List.set_cons_zero, List.set_cons_succ]
  refine wpAnyH_done (by kernel_rfl) ?_ _
  go_wp2_with fail
  go_ret
  exact ⟨rfl, HE.out⟩
set_option maxRecDepth 100000 in
set_option maxHeartbeats 8000000 in
theorem commit_nil {w : World} {B : Nat} {S : CoS} (h : Co w B S) {x : Nat} (hx : i64ok (x : Int)) :
    Calls Try.prog 49 #[.pointer (some ⟨S.c, 0, none⟩), .int .i64 (x : Int), .int .i64 0] w (fun e w' => e = .returned (.int .i64 0) ∧ LtT w B S (dropT S.T x) [] w') := by
  obtain ⟨_, _, _, _, _, c5, _⟩ := box7_ h.box
  obtain ⟨D, hown, hrep⟩ := h.map
  have hk := keyZT hx
  have HSN : Hid (∀ w1, w1.ownsMap Try.prog 3 trE S.m S.T.length (D.del (.int .i64 (x : Int))) → w.mapTurned w1 S.m → LtT w B S (dropT S.T x) [] w1) := Lib.hid fun w1 hown1 hturn => by
    have hO : Only (· = S.m) w w1 := (Only.of_grown hturn.grown).more fun j _ hj => by injection hj
    have hp := hrep.del x
    have h1 := ownsMap_tightT hown1
    have h5 : Maps.size (D.del (.int .i64 (x : Int))) = _ := hp.size
    rw [h5] at h1
    exact ⟨S.ov, [], by rw [List.append_nil]; exact h.mapped hO ⟨_, h1, hp⟩, rfl, hO.more fun j _ hj => .inr (.inl hj), fun j hj => .inl hj⟩
  clear h hx hrep
  go_enter Try.func49, Try.ntmps49
  go_wp2_with (first
    | (at_delete; refine wpList_delete_own _ rfl _ _ 61 3 rfl 67 lawKT Try.underlying61 trE S.m S.T.length D rfl hown _ _ rfl hk ?_; intro w1 hown1 hturn1
       have HS1 := Lib.hid (HSN.out w1 hown1 hturn1)
       clear hown1 hturn1))
  go_ret
  exact ⟨rfl, HS1.out⟩
set_option maxRecDepth 100000 in
set_option maxHeartbeats 16000000 in
theorem vote_last {w : World} {B : Nat} {S : CoS} (h : Co w B S) (t : Int) {f x : Nat} (hf16 : f < 16) (hx : i64ok (x : Int)) {a o : Nat} (ho : o < 65536) (s : Nat) (hof : o.testBit f = true) (hw0 : woB o f = 0) :
    Calls Try.prog 29 #[.pointer (some ⟨S.c, 0, none⟩), .agg #[.int .i64 4, .int .i64 (f : Int), .int .i64 t, .int .i64 (x : Int), .slice none 0 0], .agg #[.int .i64 2, .int .i64 (a : Int), .int .i64 (o : Int), .int .i64 0, .int .i64 (s : Int)]] w (fun e w' => e = .returned (.int .i64 0) ∧ LtT w B S (dropT S.T x) [] w') := by
  have HH := Lib.hid (fun W => has_any (n := f) ho hf16 W)
  rw [hof] at HH
  have HWP := Lib.hid (fun W => without_any (n := f) ho hf16 W)
  rw [hw0] at HWP
  obtain ⟨X, hX⟩ : ∃ X : Int, X = (x : Int) := ⟨_, rfl⟩
  have HCM : Hid (∀ W, Below w.heap.size w W → Calls Try.prog 49 #[.pointer (some ⟨S.c, 0, none⟩), .int .i64 X, .int .i64 0] W (fun e w' => e = .returned (.int .i64 0) ∧ LtT w B S (dropT S.T x) [] w')) := Lib.hid fun W hb => by
    rw [hX]
    exact (commit_nil (h.below hb) hx).mono fun e w1 hl => ⟨hl.1, hl.2.pre hb⟩
  rw [← hX]
  have HB0 : Hid (Below w.heap.size w ((w.alloc (.cells #[.int .i64 4, .int .i64 (f : Int), .int .i64 t, .int .i64 X, .slice none 0 0] 46)).alloc (.cells #[.int .i64 2, .int .i64 (a : Int), .int .i64 ((0 : Nat) : Int), .int .i64 0, .int .i64 (s : Int)] 67))) := Lib.hid (alloc2_below _ _ _)
  clear h hf16 hx ho hof hw0 hX
  go_enter Try.func29, Try.ntmps29
  go_wp2_with (first
    | (go_at_call 47; refine (HH.out _).mono ?_; rintro e1 w1 ⟨rfl, rfl⟩)
    | (go_at_call 48; refine (HWP.out _).mono ?_; rintro e1 w1 ⟨rfl, rfl⟩)
    | (go_at_call 49; refine (HCM.out _ (by exact HB0.out)).mono ?_; rintro e1 w1 ⟨rfl, hl⟩
       have HE := Lib.hid hl
       clear hl))
  go_ret
  exact ⟨rfl, HE.out⟩
end

section
open Go.RowKit
set_option maxRecDepth 100000 in
set_option maxHeartbeats 16000000 in
theorem hear_rom {w : World} {B : Nat} {S : CoS} (h : Co w B S) {f x : Nat} (hf16 : f < 16) (hx : x < 1099511627776) (hxn : x % 16 = S.node) {e : Te} (he : findT S.T x = some e) (hes : e.s = 2) (ho : e.o < 65536) (hof : e.o.testBit f = true) (hw0 : woB e.o f ≠ 0) (hT : S.T.length < 1000) :
    Calls Try.prog 14 #[.pointer (some ⟨S.c, 0, none⟩), .agg #[.int .i64 4, .int .i64 (f : Int), .int .i64 (S.node : Int), .int .i64 (x : Int), .slice none 0 0]] w (fun e1 w' => e1 = .returned (.int .i64 0) ∧ LtT w B S (putT S.T ⟨x, 2, e.a, woB e.o f, e.y, e.t⟩) [] w') := by
  have hxi : i64ok (x : Int) := by unfold i64ok; omega
  obtain ⟨k, hk⟩ : ∃ k : Int, k = 4 := ⟨_, rfl⟩
  have HRT := Lib.hid (fun W => rightL_any k (f : Int) (S.node : Int) (x : Int) [] none 0 0 rfl (by omega) W (RdI.nil _ _ _))
  rw [right_of (by omega) hf16 h.nod (by omega)] at HRT
  obtain ⟨X, hX⟩ : ∃ X : Int, X = (x : Int) := ⟨_, rfl⟩
  have hX16 : X % 16 = (S.node : Int) := by omega
  have hX17 : X.tmod 16 = (S.node : Int) := by rw [Int.tmod_eq_emod_of_nonneg (by omega)]; exact hX16
  have hX0 : 0 ≤ X := by omega
  have hnn : ((S.node : Int) != (S.node : Int)) = false := by simp
  obtain ⟨gl, hgl⟩ : ∃ gl, gl = w.heap.size := ⟨_, rfl⟩
  obtain ⟨L5, hL5⟩ : ∃ L5, L5 = Obj.cells #[.int .i64 k, .int .i64 (f : Int), .int .i64 (S.node : Int), .int .i64 X, .slice none 0 0] 46 := ⟨_, rfl⟩
  have hb0 := alloc_below w L5
  have hl5 := heap_alloc_new w L5
  obtain ⟨W0, hW0⟩ : ∃ W0, W0 = w.alloc L5 := ⟨_, rfl⟩
  rw [← hW0] at hb0 hl5
  rw [← hgl, hL5] at hl5
  have hc0 := h.below hb0
  have HB0 := Lib.hid hb0
  have HS3 : Hid (∀ W, Below W0.heap.size W0 W → (fun W : World => W.cell? ⟨gl, 0, none⟩ = some (.int .i64 k) ∧ W.cell? ⟨gl, 1, none⟩ = some (.int .i64 (f : Int)) ∧ W.cell? ⟨gl, 2, none⟩ = some (.int .i64 (S.node : Int)) ∧ W.cell? ⟨gl, 3, none⟩ = some (.int .i64 X) ∧ W.cell? ⟨gl, 4, none⟩ = some (.slice none 0 0) ∧ W.cell? ⟨S.c, 0, none⟩ = some (.int .i64 (S.node : Int))) W) := Lib.hid fun W hb => by
    obtain ⟨l0, l1, l2, l3, l4⟩ := box5 ((hb.block gl (lt_of_heap hl5)).trans hl5)
    obtain ⟨d0, _⟩ := box7_ (hc0.below hb).box
    exact ⟨l0, l1, l2, l3, l4, d0⟩
  obtain ⟨n, s0, a, o, y0, t0⟩ := e
  simp only at hes ho hof hw0 ⊢
  subst hes
  obtain ⟨y, hy⟩ : ∃ y : Int, y = (y0 : Int) := ⟨_, rfl⟩
  obtain ⟨s, hs⟩ : ∃ s : Int, s = (t0 : Int) := ⟨_, rfl⟩
  have HLK : Hid (∀ W, Below W0.heap.size W0 W → (Instr.lookup 61 (.map (some S.m)) (.int .i64 X) false).run Try.prog W = .ok (.agg #[.int .i64 2, .int .i64 (a : Int), .int .i64 (o : Int), .int .i64 y, .int .i64 s]) W) := Lib.hid fun W hb => by
    have h1 := (hc0.below hb).map.look hxi
    unfold stT at h1
    rw [hX]
    simp only [he, Te.v, teV] at h1
    rw [hy, hs]
    exact h1
  have HVN : Hid (∀ W, Below W0.heap.size W0 W → Calls Try.prog 29 #[.pointer (some ⟨S.c, 0, none⟩), .agg #[.int .i64 4, .int .i64 (f : Int), .int .i64 (S.node : Int), .int .i64 (x : Int), .slice none 0 0], .agg #[.int .i64 2, .int .i64 (a : Int), .int .i64 (o : Int), .int .i64 y, .int .i64 s]] W (fun e1 w1 => e1 = .returned (.int .i64 0) ∧ LtT W B S (putT S.T ⟨x, 2, a, woB o f, y0, t0⟩) [] w1)) := Lib.hid fun W hb => by
    rw [hy, hs]
    exact vote_read (hc0.below hb) (S.node : Int) hf16 hxi ho y0 t0 hof hw0 hT
  clear he hy hs ho hof hw0 hT
  rw [← hX] at HRT
  rw [← hX, ← hk]
  have HC := Lib.hid (closed_any hc0)
  rw [hW0, hL5] at HC
  have HW0 := Lib.hid hW0
  rw [hL5] at HW0
  have HGL := Lib.hid hgl
  have HXX := Lib.hid hX
  have HCW : Hid (∀ W, Below W0.heap.size W0 W → Co W B S) := Lib.hid fun W hb => hc0.below hb
  have HL5 : Hid (∀ W, Below W0.heap.size W0 W → W.heap[gl]? = some (.cells #[.int .i64 k, .int .i64 (f : Int), .int .i64 (S.node : Int), .int .i64 X, .slice none 0 0] 46 (0, 0))) := Lib.hid fun W hb => (hb.block gl (lt_of_heap hl5)).trans hl5
  obtain ⟨_, _, _, _, _, c5, _⟩ := box7_ hc0.box
  have HKK := Lib.hid hk
  clear h hk hf16 hx hxn hxi hX hb0 hl5 hc0 hW0 hL5 hgl hX16
  go_enter Try.func14, Try.ntmps14
  go_upto_region 3 with (go_at_call 24; refine HC.out.mono ?_; rintro e1 w1 ⟨rfl, rfl⟩)
  rw [← HW0.out]
  have hSS := HS3.out _ (drew_below W0)
  rw [← HGL.out]
  refine wp_region_held_drew (S := (fun W : World => W.cell? ⟨gl, 0, none⟩ = some (.int .i64 k) ∧ W.cell? ⟨gl, 1, none⟩ = some (.int .i64 (f : Int)) ∧ W.cell? ⟨gl, 2, none⟩ = some (.int .i64 (S.node : Int)) ∧ W.cell? ⟨gl, 3, none⟩ = some (.int .i64 X) ∧ W.cell? ⟨gl, 4, none⟩ = some (.slice none 0 0) ∧ W.cell? ⟨S.c, 0, none⟩ = some (.int .i64 (S.node : Int)))) (by kernel_rfl) hSS (fun _ => ?_)
  refine wpAnyH_take (i := 0) (oi := ({ dst := Option.some 10, op := Go.Op.load 46 (Go.Operand.tmp 3), type := 46, pos := "coordinator.go:83", after := #[], guard := Option.none } : Oper)) (v := ?v0x8) rfl (by kernel_rfl) (by kernel_rfl) (by kernel_rfl) (fun _ _ _ h => h) (Or.inl ⟨by rfl, ?hy0x8⟩) hSS ?rest0x8
  case hy0x8 =>
    intro W0 hSw
    obtain ⟨s0, s1, s2, s3, s4, s5⟩ := hSw
    go_simp
    first | done | with_reducible rfl
  try simp only [Act.put, List.setIfInBounds_toArray, List.set_cons_zero, List.set_cons_succ]
  refine wpAnyH_ready (rs := [1]) (by kernel_rfl) (by simp) ?_
  refine AllReadyH.cons (o := ({ dst := Option.some 11, op := Go.Op.call { callee := Go.Callee.value (Go.Operand.func 25), args := #[Go.Operand.tmp 10], argTypes := #[46] }, type := 4, pos := "coordinator.go:83", after := #[{ on := 0, ground := Go.Ground.data }], guard := Option.none } : Oper)) rfl (fun K0 hK0 => ?_) AllReadyH.nil
  go_simp
  go_at_call 25
  refine (HRT.out _).mono ?_
  rintro e1 w1 ⟨rfl, hb1⟩
  have HB1 := Lib.hid ((drew_below W0).trans (Below.mono hb1 (Nat.le_refl _)))
  have hSS := HS3.out _ HB1.out
  clear hb1
  try go_wp2_with fail
  refine hK0.out _ _ hSS (fun _ => ?_)
  clear hK0 K0
  try simp only [Act.put, List.setIfInBounds_toArray, List.set_cons_zero, List.set_cons_succ]
  refine wpAnyH_take (i := 2) (oi := ({ dst := Option.some 12, op := Go.Op.unOp Go.UnOp.not 4 (Go.Operand.tmp 11), type := 4, pos := "coordinator.go:83", after := #[{ on := 1, ground := Go.Ground.data }], guard := Option.none } : Oper)) (v := ?v2x9) rfl (by kernel_rfl) (by kernel_rfl) (by kernel_rfl) (fun _ _ _ h => h) (Or.inl ⟨by rfl, ?hy2x9⟩) hSS ?rest2x9
  case hy2x9 =>
    intro W0 hSw
    obtain ⟨s0, s1, s2, s3, s4, s5⟩ := hSw
    go_simp
    first | done | with_reducible rfl
  try simp only [Act.put, List.setIfInBounds_toArray, List.set_cons_zero, List.set_cons_succ]
  refine wpAnyH_take (i := 3) (oi := ({ dst := Option.some 13, op := Go.Op.move (Go.Operand.tmp 12), type := 4, pos := "coordinator.go:83", after := #[{ on := 2, ground := Go.Ground.data }, { on := 1, ground := Go.Ground.chain }], guard := Option.none } : Oper)) (v := ?v3x10) rfl (by kernel_rfl) (by kernel_rfl) (by kernel_rfl) (fun _ _ _ h => h) (Or.inl ⟨by rfl, ?hy3x10⟩) hSS ?rest3x10
  case hy3x10 =>
    intro W0 hSw
    obtain ⟨s0, s1, s2, s3, s4, s5⟩ := hSw
    go_simp
    first | done | with_reducible rfl
  try simp only [Act.put, List.setIfInBounds_toArray, List.set_cons_zero, List.set_cons_succ]
  refine wpAnyH_take (i := 4) (oi := ({ dst := Option.some 14, op := Go.Op.fieldAddr 46 (Go.Operand.tmp 3) 2, type := 0, pos := "coordinator.go:83", after := #[{ on := 3, ground := Go.Ground.guard }], guard := Option.some (3, Bool.false) } : Oper)) (v := ?v4x11) rfl (by kernel_rfl) (by kernel_rfl) (by kernel_rfl) (fun _ _ _ h => h) (Or.inl ⟨by rfl, ?hy4x11⟩) hSS ?rest4x11
  case hy4x11 =>
    intro W0 hSw
    obtain ⟨s0, s1, s2, s3, s4, s5⟩ := hSw
    go_simp
    first | done | with_reducible rfl
  try simp only [Act.put, List.setIfInBounds_toArray, List.set_cons_zero, List.set_cons_succ]
  refine wpAnyH_take (i := 5) (oi := ({ dst := Option.some 15, op := Go.Op.load 3 (Go.Operand.tmp 14), type := 3, pos := "coordinator.go:83", after := #[{ on := 4, ground := Go.Ground.data }, { on := 3, ground := Go.Ground.guard }], guard := Option.some (3, Bool.false) } : Oper)) (v := ?v5x12) rfl (by kernel_rfl) (by kernel_rfl) (by kernel_rfl) (fun _ _ _ h => h) (Or.inl ⟨by rfl, ?hy5x12⟩) hSS ?rest5x12
  case hy5x12 =>
    intro W0 hSw
    obtain ⟨s0, s1, s2, s3, s4, s5⟩ := hSw
    go_simp
    first | done | with_reducible rfl
  try simp only [Act.put, List.setIfInBounds_toArray, List.set_cons_zero, List.set_cons_succ]
  refine wpAnyH_take (i := 6) (oi := ({ dst := Option.some 16, op := Go.Op.move (Go.Operand.tmp 0), type := 28, pos := "coordinator.go:83", after := #[{ on := 3, ground := Go.Ground.guard }], guard := Option.some (3, Bool.false) } : Oper)) (v := ?v6x13) rfl (by kernel_rfl) (by kernel_rfl) (by kernel_rfl) (fun _ _ _ h => h) (Or.inl ⟨by rfl, ?hy6x13⟩) hSS ?rest6x13
  case hy6x13 =>
    intro W0 hSw
    obtain ⟨s0, s1, s2, s3, s4, s5⟩ := hSw
    go_simp
    first | done | with_reducible rfl
  try simp only [Act.put, List.setIfInBounds_toArray, List.set_cons_zero, List.set_cons_succ]
  refine wpAnyH_take (i := 7) (oi := ({ dst := Option.some 17, op := Go.Op.nilCheck (Go.Operand.tmp 16), type := 0, pos := "coordinator.go:83", after := #[{ on := 6, ground := Go.Ground.data }, { on := 3, ground := Go.Ground.guard }], guard := Option.some (3, Bool.false) } : Oper)) (v := ?v7x14) rfl (by kernel_rfl) (by kernel_rfl) (by kernel_rfl) (fun _ _ _ h => h) (Or.inl ⟨by rfl, ?hy7x14⟩) hSS ?rest7x14
  case hy7x14 =>
    intro W0 hSw
    obtain ⟨s0, s1, s2, s3, s4, s5⟩ := hSw
    go_simp
    first | done | with_reducible rfl
  try simp only [Act.put, List.setIfInBounds_toArray, List.set_cons_zero, List.set_cons_succ]
  refine wpAnyH_take (i := 8) (oi := ({ dst := Option.some 18, op := Go.Op.fieldAddr 63 (Go.Operand.tmp 17) 0, type := 0, pos := "coordinator.go:83", after := #[{ on := 7, ground := Go.Ground.data }, { on := 3, ground := Go.Ground.guard }], guard := Option.some (3, Bool.false) } : Oper)) (v := ?v8x15) rfl (by kernel_rfl) (by kernel_rfl) (by kernel_rfl) (fun _ _ _ h => h) (Or.inl ⟨by rfl, ?hy8x15⟩) hSS ?rest8x15
  case hy8x15 =>
    intro W0 hSw
    obtain ⟨s0, s1, s2, s3, s4, s5⟩ := hSw
    go_simp
    first | done | with_reducible rfl
  try simp only [Act.put, List.setIfInBounds_toArray, List.set_cons_zero, List.set_cons_succ]
  refine wpAnyH_take (i := 9) (oi := ({ dst := Option.some 19, op := Go.Op.load 3 (Go.Operand.tmp 18), type := 3, pos := "coordinator.go:83", after := #[{ on := 8, ground := Go.Ground.data }, { on := 3, ground := Go.Ground.guard }], guard := Option.some (3, Bool.false) } : Oper)) (v := ?v9x16) rfl (by kernel_rfl) (by kernel_rfl) (by kernel_rfl) (fun _ _ _ h => h) (Or.inl ⟨by rfl, ?hy9x16⟩) hSS ?rest9x16
  case hy9x16 =>
    intro W0 hSw
    obtain ⟨s0, s1, s2, s3, s4, s5⟩ := hSw
    go_simp
    first | done | with_reducible rfl
  try simp only [Act.put, List.setIfInBounds_toArray, List.set_cons_zero, List.set_cons_succ]
  refine wpAnyH_take (i := 10) (oi := ({ dst := Option.some 20, op := Go.Op.binOp Go.BinOp.neq 3 (Go.Operand.tmp 15) (Go.Operand.tmp 19) 3, type := 4, pos := "coordinator.go:83", after := #[{ on := 5, ground := Go.Ground.data }, { on := 9, ground := Go.Ground.data }, { on := 3, ground := Go.Ground.guard }], guard := Option.some (3, Bool.false) } : Oper)) (v := ?v10x17) rfl (by kernel_rfl) (by kernel_rfl) (by kernel_rfl) (fun _ _ _ h => h) (Or.inl ⟨by rfl, ?hy10x17⟩) hSS ?rest10x17
  case hy10x17 =>
    intro W0 hSw
    obtain ⟨s0, s1, s2, s3, s4, s5⟩ := hSw
    go_simp
    first | done | with_reducible rfl
  try simp only [Act.put, List.setIfInBounds_toArray, List.set_cons_zero, List.set_cons_succ]
  refine wpAnyH_take (i := 11) (oi := ({ dst := Option.some 21, op := Go.Op.pick (Go.Operand.tmp 13) (Go.Operand.const (Go.Value.bool Bool.true)) (Go.Operand.tmp 20), type := 4, pos := "coordinator.go:83", after := #[{ on := 3, ground := Go.Ground.data }, { on := 10, ground := Go.Ground.data }], guard := Option.none } : Oper)) (v := ?v11x18) rfl (by kernel_rfl) (by kernel_rfl) (by kernel_rfl) (fun _ _ _ h => h) (Or.inl ⟨by rfl, ?hy11x18⟩) hSS ?rest11x18
  case hy11x18 =>
    intro W0 hSw
    obtain ⟨s0, s1, s2, s3, s4, s5⟩ := hSw
    go_simp
    first | done | with_reducible rfl
  try simp only [Act.put, List.setIfInBounds_toArray, List.set_cons_zero, List.set_cons_succ]
  refine wpAnyH_take (i := 12) (oi := ({ dst := Option.some 22, op := Go.Op.move (Go.Operand.tmp 21), type := 4, pos := "coordinator.go:83", after := #[{ on := 11, ground := Go.Ground.data }, { on := 3, ground := Go.Ground.chain }], guard := Option.none } : Oper)) (v := ?v12x19) rfl (by kernel_rfl) (by kernel_rfl) (by kernel_rfl) (fun _ _ _ h => h) (Or.inl ⟨by rfl, ?hy12x19⟩) hSS ?rest12x19
  case hy12x19 =>
    intro W0 hSw
    obtain ⟨s0, s1, s2, s3, s4, s5⟩ := hSw
    go_simp
    first | done | with_reducible rfl
  try simp only [Act.put, List.setIfInBounds_toArray, List.set_cons_zero, List.set_cons_succ]
  refine wpAnyH_take (i := 13) (oi := ({ dst := Option.some 23, op := Go.Op.fieldAddr 46 (Go.Operand.tmp 3) 3, type := 0, pos := "coordinator.go:83", after := #[{ on := 12, ground := Go.Ground.guard }], guard := Option.some (12, Bool.false) } : Oper)) (v := ?v13x20) rfl (by kernel_rfl) (by kernel_rfl) (by kernel_rfl) (fun _ _ _ h => h) (Or.inl ⟨by rfl, ?hy13x20⟩) hSS ?rest13x20
  case hy13x20 =>
    intro W0 hSw
    obtain ⟨s0, s1, s2, s3, s4, s5⟩ := hSw
    go_simp
    first | done | with_reducible rfl
  try simp only [Act.put, List.setIfInBounds_toArray, List.set_cons_zero, List.set_cons_succ]
  refine wpAnyH_take (i := 14) (oi := ({ dst := Option.some 24, op := Go.Op.load 3 (Go.Operand.tmp 23), type := 3, pos := "coordinator.go:83", after := #[{ on := 13, ground := Go.Ground.data }, { on := 12, ground := Go.Ground.guard }], guard := Option.some (12, Bool.false) } : Oper)) (v := ?v14x21) rfl (by kernel_rfl) (by kernel_rfl) (by kernel_rfl) (fun _ _ _ h => h) (Or.inl ⟨by rfl, ?hy14x21⟩) hSS ?rest14x21
  case hy14x21 =>
    intro W0 hSw
    obtain ⟨s0, s1, s2, s3, s4, s5⟩ := hSw
    go_simp
    first | done | with_reducible rfl
  try simp only [Act.put, List.setIfInBounds_toArray, List.set_cons_zero, List.set_cons_succ]
  refine wpAnyH_take (i := 15) (oi := ({ dst := Option.some 25, op := Go.Op.binOp Go.BinOp.rem 3 (Go.Operand.tmp 24) (Go.Operand.const (Go.Value.int Go.IntKind.i64 16)) 3, type := 3, pos := "coordinator.go:83", after := #[{ on := 14, ground := Go.Ground.data }, { on := 12, ground := Go.Ground.guard }], guard := Option.some (12, Bool.false) } : Oper)) (v := ?v15x22) rfl (by kernel_rfl) (by kernel_rfl) (by kernel_rfl) (fun _ _ _ h => h) (Or.inl ⟨by rfl, ?hy15x22⟩) hSS ?rest15x22
  case hy15x22 =>
    intro W0 hSw
    obtain ⟨s0, s1, s2, s3, s4, s5⟩ := hSw
    go_simp
    first | done | with_reducible rfl
  try simp only [Act.put, List.setIfInBounds_toArray, List.set_cons_zero, List.set_cons_succ]
  refine wpAnyH_take (i := 16) (oi := ({ dst := Option.some 26, op := Go.Op.move (Go.Operand.tmp 0), type := 28, pos := "coordinator.go:83", after := #[{ on := 12, ground := Go.Ground.guard }], guard := Option.some (12, Bool.false) } : Oper)) (v := ?v16x23) rfl (by kernel_rfl) (by kernel_rfl) (by kernel_rfl) (fun _ _ _ h => h) (Or.inl ⟨by rfl, ?hy16x23⟩) hSS ?rest16x23
  case hy16x23 =>
    intro W0 hSw
    obtain ⟨s0, s1, s2, s3, s4, s5⟩ := hSw
    go_simp
    first | done | with_reducible rfl
  try simp only [Act.put, List.setIfInBounds_toArray, List.set_cons_zero, List.set_cons_succ]
  refine wpAnyH_take (i := 17) (oi := ({ dst := Option.some 27, op := Go.Op.nilCheck (Go.Operand.tmp 26), type := 0, pos := "coordinator.go:83", after := #[{ on := 16, ground := Go.Ground.data }, { on := 12, ground := Go.Ground.guard }], guard := Option.some (12, Bool.false) } : Oper)) (v := ?v17x24) rfl (by kernel_rfl) (by kernel_rfl) (by kernel_rfl) (fun _ _ _ h => h) (Or.inl ⟨by rfl, ?hy17x24⟩) hSS ?rest17x24
  case hy17x24 =>
    intro W0 hSw
    obtain ⟨s0, s1, s2, s3, s4, s5⟩ := hSw
    go_simp
    first | done | with_reducible rfl
  try simp only [Act.put, List.setIfInBounds_toArray, List.set_cons_zero, List.set_cons_succ]
  refine wpAnyH_take (i := 18) (oi := ({ dst := Option.some 28, op := Go.Op.fieldAddr 63 (Go.Operand.tmp 27) 0, type := 0, pos := "coordinator.go:83", after := #[{ on := 17, ground := Go.Ground.data }, { on := 12, ground := Go.Ground.guard }], guard := Option.some (12, Bool.false) } : Oper)) (v := ?v18x25) rfl (by kernel_rfl) (by kernel_rfl) (by kernel_rfl) (fun _ _ _ h => h) (Or.inl ⟨by rfl, ?hy18x25⟩) hSS ?rest18x25
  case hy18x25 =>
    intro W0 hSw
    obtain ⟨s0, s1, s2, s3, s4, s5⟩ := hSw
    go_simp
    first | done | with_reducible rfl
  try simp only [Act.put, List.setIfInBounds_toArray, List.set_cons_zero, List.set_cons_succ]
  refine wpAnyH_take (i := 19) (oi := ({ dst := Option.some 29, op := Go.Op.load 3 (Go.Operand.tmp 28), type := 3, pos := "coordinator.go:83", after := #[{ on := 18, ground := Go.Ground.data }, { on := 12, ground := Go.Ground.guard }], guard := Option.some (12, Bool.false) } : Oper)) (v := ?v19x26) rfl (by kernel_rfl) (by kernel_rfl) (by kernel_rfl) (fun _ _ _ h => h) (Or.inl ⟨by rfl, ?hy19x26⟩) hSS ?rest19x26
  case hy19x26 =>
    intro W0 hSw
    obtain ⟨s0, s1, s2, s3, s4, s5⟩ := hSw
    go_simp
    first | done | with_reducible rfl
  try simp only [Act.put, List.setIfInBounds_toArray, List.set_cons_zero, List.set_cons_succ]
  refine wpAnyH_take (i := 20) (oi := ({ dst := Option.some 30, op := Go.Op.binOp Go.BinOp.neq 3 (Go.Operand.tmp 25) (Go.Operand.tmp 29) 3, type := 4, pos := "coordinator.go:83", after := #[{ on := 15, ground := Go.Ground.data }, { on := 19, ground := Go.Ground.data }, { on := 12, ground := Go.Ground.guard }], guard := Option.some (12, Bool.false) } : Oper)) (v := ?v20x27) rfl (by kernel_rfl) (by kernel_rfl) (by kernel_rfl) (fun _ _ _ h => h) (Or.inl ⟨by rfl, ?hy20x27⟩) hSS ?rest20x27
  case hy20x27 =>
    intro W0 hSw
    obtain ⟨s0, s1, s2, s3, s4, s5⟩ := hSw
    go_simp
    first | done | with_reducible rfl
  try simp only [Act.put, List.setIfInBounds_toArray, List.set_cons_zero, List.set_cons_succ]
  refine wpAnyH_take (i := 21) (oi := ({ dst := Option.some 31, op := Go.Op.pick (Go.Operand.tmp 22) (Go.Operand.const (Go.Value.bool Bool.true)) (Go.Operand.tmp 30), type := 4, pos := "coordinator.go:83", after := #[{ on := 12, ground := Go.Ground.data }, { on := 20, ground := Go.Ground.data }], guard := Option.none } : Oper)) (v := ?v21x28) rfl (by kernel_rfl) (by kernel_rfl) (by kernel_rfl) (fun _ _ _ h => h) (Or.inl ⟨by rfl, ?hy21x28⟩) hSS ?rest21x28
  case hy21x28 =>
    intro W0 hSw
    obtain ⟨s0, s1, s2, s3, s4, s5⟩ := hSw
    go_simp
    first | done | with_reducible rfl
  try simp only [Act.put, List.setIfInBounds_toArray, List.set_cons_zero, List.set_cons_succ]
  refine wpAnyH_take (i := 22) (oi := ({ dst := Option.some 9, op := Go.Op.assign (Go.Operand.tmp 31), type := 4, pos := "coordinator.go:83", after := #[{ on := 21, ground := Go.Ground.data }, { on := 12, ground := Go.Ground.chain }], guard := Option.none } : Oper)) (v := ?v22x29) rfl (by kernel_rfl) (by kernel_rfl) (by kernel_rfl) (fun _ _ _ h => h) (Or.inl ⟨by rfl, ?hy22x29⟩) hSS ?rest22x29
  case hy22x29 =>
    intro W0 hSw
    obtain ⟨s0, s1, s2, s3, s4, s5⟩ := hSw
    go_simp
    first | done | with_reducible rfl
  try simp only [Act.put, List.setIfInBounds_toArray, List.set_cons_zero, List.set_cons_succ]
  refine wpAnyH_done (by kernel_rfl) ?_ _
  go_upto_region 5 with fail
  have e2 : (k == 2) = false := by rw [HKK.out]; rfl
  have e3 : (k == 3) = false := by rw [HKK.out]; rfl
  have e4 : (k == 4) = true := by rw [HKK.out]; rfl
  have e7 : (k == 7) = false := by rw [HKK.out]; rfl
  have e8 : (k == 8) = false := by rw [HKK.out]; rfl
  have HS5 : Hid (∀ W, Below W0.heap.size W0 W → (fun W : World => W.cell? ⟨S.c, 5, none⟩ = some (.map (some S.m)) ∧ W.cell? ⟨gl, 3, none⟩ = some (.int .i64 X) ∧ (Instr.lookup 61 (.map (some S.m)) (.int .i64 X) false).run Try.prog W = .ok (.agg #[.int .i64 2, .int .i64 (a : Int), .int .i64 (o : Int), .int .i64 y, .int .i64 s]) W) W) := Lib.hid fun W hb => by
    obtain ⟨_, _, _, _, _, d5, _⟩ := box7_ (HCW.out W hb).box
    obtain ⟨_, _, _, l3, _⟩ := box5 (HL5.out W hb)
    exact ⟨d5, l3, HLK.out W hb⟩
  have hS5 := HS5.out _ (HB1.out.trans ((drew_below w1).mono HB1.out.size))
  clear c5
  refine wp_region_held_drew (S := (fun W : World => W.cell? ⟨S.c, 5, none⟩ = some (.map (some S.m)) ∧ W.cell? ⟨gl, 3, none⟩ = some (.int .i64 X) ∧ (Instr.lookup 61 (.map (some S.m)) (.int .i64 X) false).run Try.prog W = .ok (.agg #[.int .i64 2, .int .i64 (a : Int), .int .i64 (o : Int), .int .i64 y, .int .i64 s]) W)) (by kernel_rfl) hS5 (fun _ => ?_)
  refine wpAnyH_take (i := 0) (oi := ({ dst := Option.some 32, op := Go.Op.move (Go.Operand.tmp 0), type := 28, pos := "coordinator.go:86", after := #[], guard := Option.none } : Oper)) (v := ?v0x30) rfl (by kernel_rfl) (by kernel_rfl) (by kernel_rfl) (fun _ _ _ h => h) (Or.inl ⟨by rfl, ?hy0x30⟩) hS5 ?rest0x30
  case hy0x30 =>
    intro W0 hSw
    obtain ⟨s0, s1, s2⟩ := hSw
    go_simp
    first | done | with_reducible rfl
  try simp only [Act.put, List.setIfInBounds_toArray, List.set_cons_zero, List.set_cons_succ]
  refine wpAnyH_take (i := 1) (oi := ({ dst := Option.some 33, op := Go.Op.nilCheck (Go.Operand.tmp 32), type := 0, pos := "coordinator.go:86", after := #[{ on := 0, ground := Go.Ground.data }], guard := Option.none } : Oper)) (v := ?v1x31) rfl (by kernel_rfl) (by kernel_rfl) (by kernel_rfl) (fun _ _ _ h => h) (Or.inl ⟨by rfl, ?hy1x31⟩) hS5 ?rest1x31
  case hy1x31 =>
    intro W0 hSw
    obtain ⟨s0, s1, s2⟩ := hSw
    go_simp
    first | done | with_reducible rfl
  try simp only [Act.put, List.setIfInBounds_toArray, List.set_cons_zero, List.set_cons_succ]
  refine wpAnyH_take (i := 2) (oi := ({ dst := Option.some 34, op := Go.Op.fieldAddr 63 (Go.Operand.tmp 33) 5, type := 0, pos := "coordinator.go:86", after := #[{ on := 1, ground := Go.Ground.data }], guard := Option.none } : Oper)) (v := ?v2x32) rfl (by kernel_rfl) (by kernel_rfl) (by kernel_rfl) (fun _ _ _ h => h) (Or.inl ⟨by rfl, ?hy2x32⟩) hS5 ?rest2x32
  case hy2x32 =>
    intro W0 hSw
    obtain ⟨s0, s1, s2⟩ := hSw
    go_simp
    first | done | with_reducible rfl
  try simp only [Act.put, List.setIfInBounds_toArray, List.set_cons_zero, List.set_cons_succ]
  refine wpAnyH_take (i := 3) (oi := ({ dst := Option.some 35, op := Go.Op.load 61 (Go.Operand.tmp 34), type := 61, pos := "coordinator.go:86", after := #[{ on := 2, ground := Go.Ground.data }], guard := Option.none } : Oper)) (v := ?v3x33) rfl (by kernel_rfl) (by kernel_rfl) (by kernel_rfl) (fun _ _ _ h => h) (Or.inl ⟨by rfl, ?hy3x33⟩) hS5 ?rest3x33
  case hy3x33 =>
    intro W0 hSw
    obtain ⟨s0, s1, s2⟩ := hSw
    go_simp
    first | done | with_reducible rfl
  try simp only [Act.put, List.setIfInBounds_toArray, List.set_cons_zero, List.set_cons_succ]
  refine wpAnyH_take (i := 4) (oi := ({ dst := Option.some 36, op := Go.Op.fieldAddr 46 (Go.Operand.tmp 3) 3, type := 0, pos := "coordinator.go:86", after := #[], guard := Option.none } : Oper)) (v := ?v4x34) rfl (by kernel_rfl) (by kernel_rfl) (by kernel_rfl) (fun _ _ _ h => h) (Or.inl ⟨by rfl, ?hy4x34⟩) hS5 ?rest4x34
  case hy4x34 =>
    intro W0 hSw
    obtain ⟨s0, s1, s2⟩ := hSw
    go_simp
    first | done | with_reducible rfl
  try simp only [Act.put, List.setIfInBounds_toArray, List.set_cons_zero, List.set_cons_succ]
  refine wpAnyH_take (i := 5) (oi := ({ dst := Option.some 37, op := Go.Op.load 3 (Go.Operand.tmp 36), type := 3, pos := "coordinator.go:86", after := #[{ on := 4, ground := Go.Ground.data }], guard := Option.none } : Oper)) (v := ?v5x35) rfl (by kernel_rfl) (by kernel_rfl) (by kernel_rfl) (fun _ _ _ h => h) (Or.inl ⟨by rfl, ?hy5x35⟩) hS5 ?rest5x35
  case hy5x35 =>
    intro W0 hSw
    obtain ⟨s0, s1, s2⟩ := hSw
    go_simp
    first | done | with_reducible rfl
  try simp only [Act.put, List.setIfInBounds_toArray, List.set_cons_zero, List.set_cons_succ]
  refine wpAnyH_take (i := 6) (oi := ({ dst := Option.some 38, op := Go.Op.lookup 61 (Go.Operand.tmp 35) (Go.Operand.tmp 37) Bool.false, type := 67, pos := "coordinator.go:86", after := #[{ on := 3, ground := Go.Ground.data }, { on := 5, ground := Go.Ground.data }], guard := Option.none } : Oper)) (v := ?v6x36) rfl (by kernel_rfl) (by kernel_rfl) (by kernel_rfl) (fun _ _ _ h => h) (Or.inl ⟨by rfl, ?hy6x36⟩) hS5 ?rest6x36
  case hy6x36 =>
    intro W0 hSw
    obtain ⟨s0, s1, s2⟩ := hSw
    go_simp
    first | done | with_reducible rfl
  try simp only [Act.put, List.setIfInBounds_toArray, List.set_cons_zero, List.set_cons_succ]
  refine wpAnyH_ready (rs := [7]) (by kernel_rfl) (by simp) ?_
  refine AllReadyH.cons (o := ({ dst := Option.some 5, op := Go.Op.alloc 67, type := 0, pos := "coordinator.go:86", after := #[], guard := Option.none } : Oper)) rfl (fun K0 hK0 => ?_) AllReadyH.nil
  go_simp
  refine hK0.out _ _ (HS5.out _ ?hb7) (fun _ => ?_)
  case hb7 => first | exact HB1.out.trans (((alloc_below w1 _).trans ((drew_below _).mono (by simp))).mono HB1.out.size) | exact HB1.out.trans (((drew_below w1).trans (alloc_below w1.drew _)).mono HB1.out.size)
  clear hK0 K0
  try simp only [Act.put, List.setIfInBounds_toArray, List.set_cons_zero, List.set_cons_succ]
  refine wpAnyH_ready (rs := [8]) (by kernel_rfl) (by simp) ?_
  refine AllReadyH.cons (o := ({ dst := Option.none, op := Go.Op.store 67 (Go.Operand.tmp 5) (Go.Operand.tmp 38), type := 0, pos := "coordinator.go:86", after := #[{ on := 7, ground := Go.Ground.data }, { on := 6, ground := Go.Ground.data }, { on := 0, ground := Go.Ground.phase }, { on := 1, ground := Go.Ground.phase }, { on := 2, ground := Go.Ground.phase }, { on := 3, ground := Go.Ground.phase }, { on := 4, ground := Go.Ground.phase }, { on := 5, ground := Go.Ground.phase }, { on := 6, ground := Go.Ground.phase }, { on := 7, ground := Go.Ground.phase }], guard := Option.none } : Oper)) rfl (fun K0 hK0 => ?_) AllReadyH.nil
  go_simp
  refine hK0.out _ _ (HS5.out _ ?hb8) (fun _ => ?_)
  case hb8 => first | exact HB1.out.trans (((alloc_below w1 _).trans ((drew_below _).mono (by simp))).mono HB1.out.size) | exact HB1.out.trans (((drew_below w1).trans (alloc_below w1.drew _)).mono HB1.out.size)
  clear hK0 K0
  try simp only [Act.put, List.setIfInBounds_toArray, List.set_cons_zero, List.set_cons_succ]
  refine wpAnyH_done (by kernel_rfl) ?_ _
  obtain ⟨W5, hW5⟩ : ∃ W5, Hid (W5 = (w1.alloc (.cells #[.int .i64 2, .int .i64 (a : Int), .int .i64 (o : Int), .int .i64 y, .int .i64 s] 67)).drew) := ⟨_, Lib.hid rfl⟩
  rw [← hW5.out]
  have hb5 : Below W0.heap.size W0 W5 := by rw [hW5.out]; exact HB1.out.trans (((alloc_below w1 _).trans ((drew_below _).mono (by simp))).mono HB1.out.size)
  have ht5 : W5.heap[w1.heap.size]? = some (.cells #[.int .i64 2, .int .i64 (a : Int), .int .i64 (o : Int), .int .i64 y, .int .i64 s] 67 (0, 0)) := by rw [hW5.out]; exact heap_alloc_new w1 _
  obtain ⟨l0, l1, l2, l3, l4⟩ := box5 (HL5.out _ hb5)
  obtain ⟨z0, z1, z2, z3, z4⟩ := box5 ht5
  have hcw := HCW.out _ hb5
  have hvn := HVN.out _ hb5
  rw [← HXX.out, ← HKK.out] at hvn
  have HVN2 := Lib.hid hvn
  have HB5 := Lib.hid hb5
  clear hvn
  clear hb5 ht5 hcw
  go_wp2_with (go_at_call 29; refine HVN2.out.mono ?_; rintro e1 w6 ⟨rfl, hl⟩
               have HE := Lib.hid ((hl.pre HB5.out).pre HB0.out)
               clear hl)
  go_ret
  exact ⟨rfl, HE.out⟩
set_option maxRecDepth 100000 in
set_option maxHeartbeats 16000000 in
theorem hear_rol {w : World} {B : Nat} {S : CoS} (h : Co w B S) {f x : Nat} (hf16 : f < 16) (hx : x < 1099511627776) (hxn : x % 16 = S.node) {e : Te} (he : findT S.T x = some e) (hes : e.s = 2) (ho : e.o < 65536) (hof : e.o.testBit f = true) (hy0 : e.y = 0) (hw0 : woB e.o f = 0) :
    Calls Try.prog 14 #[.pointer (some ⟨S.c, 0, none⟩), .agg #[.int .i64 4, .int .i64 (f : Int), .int .i64 (S.node : Int), .int .i64 (x : Int), .slice none 0 0]] w (fun e1 w' => e1 = .returned (.int .i64 0) ∧ LtT w B S (dropT S.T x) [] w') := by
  have hxi : i64ok (x : Int) := by unfold i64ok; omega
  obtain ⟨k, hk⟩ : ∃ k : Int, k = 4 := ⟨_, rfl⟩
  have HRT := Lib.hid (fun W => rightL_any k (f : Int) (S.node : Int) (x : Int) [] none 0 0 rfl (by omega) W (RdI.nil _ _ _))
  rw [right_of (by omega) hf16 h.nod (by omega)] at HRT
  obtain ⟨X, hX⟩ : ∃ X : Int, X = (x : Int) := ⟨_, rfl⟩
  have hX16 : X % 16 = (S.node : Int) := by omega
  have hX17 : X.tmod 16 = (S.node : Int) := by rw [Int.tmod_eq_emod_of_nonneg (by omega)]; exact hX16
  have hX0 : 0 ≤ X := by omega
  have hnn : ((S.node : Int) != (S.node : Int)) = false := by simp
  obtain ⟨gl, hgl⟩ : ∃ gl, gl = w.heap.size := ⟨_, rfl⟩
  obtain ⟨L5, hL5⟩ : ∃ L5, L5 = Obj.cells #[.int .i64 k, .int .i64 (f : Int), .int .i64 (S.node : Int), .int .i64 X, .slice none 0 0] 46 := ⟨_, rfl⟩
  have hb0 := alloc_below w L5
  have hl5 := heap_alloc_new w L5
  obtain ⟨W0, hW0⟩ : ∃ W0, W0 = w.alloc L5 := ⟨_, rfl⟩
  rw [← hW0] at hb0 hl5
  rw [← hgl, hL5] at hl5
  have hc0 := h.below hb0
  have HB0 := Lib.hid hb0
  have HS3 : Hid (∀ W, Below W0.heap.size W0 W → (fun W : World => W.cell? ⟨gl, 0, none⟩ = some (.int .i64 k) ∧ W.cell? ⟨gl, 1, none⟩ = some (.int .i64 (f : Int)) ∧ W.cell? ⟨gl, 2, none⟩ = some (.int .i64 (S.node : Int)) ∧ W.cell? ⟨gl, 3, none⟩ = some (.int .i64 X) ∧ W.cell? ⟨gl, 4, none⟩ = some (.slice none 0 0) ∧ W.cell? ⟨S.c, 0, none⟩ = some (.int .i64 (S.node : Int))) W) := Lib.hid fun W hb => by
    obtain ⟨l0, l1, l2, l3, l4⟩ := box5 ((hb.block gl (lt_of_heap hl5)).trans hl5)
    obtain ⟨d0, _⟩ := box7_ (hc0.below hb).box
    exact ⟨l0, l1, l2, l3, l4, d0⟩
  obtain ⟨n, s0, a, o, y0, t0⟩ := e
  simp only at hes ho hof hw0 hy0 ⊢
  subst hes hy0
  obtain ⟨s, hs⟩ : ∃ s : Int, s = (t0 : Int) := ⟨_, rfl⟩
  have HLK : Hid (∀ W, Below W0.heap.size W0 W → (Instr.lookup 61 (.map (some S.m)) (.int .i64 X) false).run Try.prog W = .ok (.agg #[.int .i64 2, .int .i64 (a : Int), .int .i64 (o : Int), .int .i64 0, .int .i64 s]) W) := Lib.hid fun W hb => by
    have h1 := (hc0.below hb).map.look hxi
    unfold stT at h1
    rw [hX]
    simp only [he, Te.v, teV] at h1
    rw [hs]
    exact h1
  have HVN : Hid (∀ W, Below W0.heap.size W0 W → Calls Try.prog 29 #[.pointer (some ⟨S.c, 0, none⟩), .agg #[.int .i64 4, .int .i64 (f : Int), .int .i64 (S.node : Int), .int .i64 (x : Int), .slice none 0 0], .agg #[.int .i64 2, .int .i64 (a : Int), .int .i64 (o : Int), .int .i64 0, .int .i64 s]] W (fun e1 w1 => e1 = .returned (.int .i64 0) ∧ LtT W B S (dropT S.T x) [] w1)) := Lib.hid fun W hb => by
    rw [hs]
    exact vote_last (hc0.below hb) (S.node : Int) hf16 hxi ho t0 hof hw0
  clear he hs ho hof hw0
  rw [← hX] at HRT
  rw [← hX, ← hk]
  have HC := Lib.hid (closed_any hc0)
  rw [hW0, hL5] at HC
  have HW0 := Lib.hid hW0
  rw [hL5] at HW0
  have HGL := Lib.hid hgl
  have HXX := Lib.hid hX
  have HCW : Hid (∀ W, Below W0.heap.size W0 W → Co W B S) := Lib.hid fun W hb => hc0.below hb
  have HL5 : Hid (∀ W, Below W0.heap.size W0 W → W.heap[gl]? = some (.cells #[.int .i64 k, .int .i64 (f : Int), .int .i64 (S.node : Int), .int .i64 X, .slice none 0 0] 46 (0, 0))) := Lib.hid fun W hb => (hb.block gl (lt_of_heap hl5)).trans hl5
  obtain ⟨_, _, _, _, _, c5, _⟩ := box7_ hc0.box
  have HKK := Lib.hid hk
  clear h hk hf16 hx hxn hxi hX hb0 hl5 hc0 hW0 hL5 hgl hX16
  go_enter Try.func14, Try.ntmps14
  go_upto_region 3 with (go_at_call 24; refine HC.out.mono ?_; rintro e1 w1 ⟨rfl, rfl⟩)
  rw [← HW0.out]
  have hSS := HS3.out _ (drew_below W0)
  rw [← HGL.out]
  refine wp_region_held_drew (S := (fun W : World => W.cell? ⟨gl, 0, none⟩ = some (.int .i64 k) ∧ W.cell? ⟨gl, 1, none⟩ = some (.int .i64 (f : Int)) ∧ W.cell? ⟨gl, 2, none⟩ = some (.int .i64 (S.node : Int)) ∧ W.cell? ⟨gl, 3, none⟩ = some (.int .i64 X) ∧ W.cell? ⟨gl, 4, none⟩ = some (.slice none 0 0) ∧ W.cell? ⟨S.c, 0, none⟩ = some (.int .i64 (S.node : Int)))) (by kernel_rfl) hSS (fun _ => ?_)
  refine wpAnyH_take (i := 0) (oi := ({ dst := Option.some 10, op := Go.Op.load 46 (Go.Operand.tmp 3), type := 46, pos := "coordinator.go:83", after := #[], guard := Option.none } : Oper)) (v := ?v0x8) rfl (by kernel_rfl) (by kernel_rfl) (by kernel_rfl) (fun _ _ _ h => h) (Or.inl ⟨by rfl, ?hy0x8⟩) hSS ?rest0x8
  case hy0x8 =>
    intro W0 hSw
    obtain ⟨s0, s1, s2, s3, s4, s5⟩ := hSw
    go_simp
    first | done | with_reducible rfl
  try simp only [Act.put, List.setIfInBounds_toArray, List.set_cons_zero, List.set_cons_succ]
  refine wpAnyH_ready (rs := [1]) (by kernel_rfl) (by simp) ?_
  refine AllReadyH.cons (o := ({ dst := Option.some 11, op := Go.Op.call { callee := Go.Callee.value (Go.Operand.func 25), args := #[Go.Operand.tmp 10], argTypes := #[46] }, type := 4, pos := "coordinator.go:83", after := #[{ on := 0, ground := Go.Ground.data }], guard := Option.none } : Oper)) rfl (fun K0 hK0 => ?_) AllReadyH.nil
  go_simp
  go_at_call 25
  refine (HRT.out _).mono ?_
  rintro e1 w1 ⟨rfl, hb1⟩
  have HB1 := Lib.hid ((drew_below W0).trans (Below.mono hb1 (Nat.le_refl _)))
  have hSS := HS3.out _ HB1.out
  clear hb1
  try go_wp2_with fail
  refine hK0.out _ _ hSS (fun _ => ?_)
  clear hK0 K0
  try simp only [Act.put, List.setIfInBounds_toArray, List.set_cons_zero, List.set_cons_succ]
  refine wpAnyH_take (i := 2) (oi := ({ dst := Option.some 12, op := Go.Op.unOp Go.UnOp.not 4 (Go.Operand.tmp 11), type := 4, pos := "coordinator.go:83", after := #[{ on := 1, ground := Go.Ground.data }], guard := Option.none } : Oper)) (v := ?v2x9) rfl (by kernel_rfl) (by kernel_rfl) (by kernel_rfl) (fun _ _ _ h => h) (Or.inl ⟨by rfl, ?hy2x9⟩) hSS ?rest2x9
  case hy2x9 =>
    intro W0 hSw
    obtain ⟨s0, s1, s2, s3, s4, s5⟩ := hSw
    go_simp
    first | done | with_reducible rfl
  try simp only [Act.put, List.setIfInBounds_toArray, List.set_cons_zero, List.set_cons_succ]
  refine wpAnyH_take (i := 3) (oi := ({ dst := Option.some 13, op := Go.Op.move (Go.Operand.tmp 12), type := 4, pos := "coordinator.go:83", after := #[{ on := 2, ground := Go.Ground.data }, { on := 1, ground := Go.Ground.chain }], guard := Option.none } : Oper)) (v := ?v3x10) rfl (by kernel_rfl) (by kernel_rfl) (by kernel_rfl) (fun _ _ _ h => h) (Or.inl ⟨by rfl, ?hy3x10⟩) hSS ?rest3x10
  case hy3x10 =>
    intro W0 hSw
    obtain ⟨s0, s1, s2, s3, s4, s5⟩ := hSw
    go_simp
    first | done | with_reducible rfl
  try simp only [Act.put, List.setIfInBounds_toArray, List.set_cons_zero, List.set_cons_succ]
  refine wpAnyH_take (i := 4) (oi := ({ dst := Option.some 14, op := Go.Op.fieldAddr 46 (Go.Operand.tmp 3) 2, type := 0, pos := "coordinator.go:83", after := #[{ on := 3, ground := Go.Ground.guard }], guard := Option.some (3, Bool.false) } : Oper)) (v := ?v4x11) rfl (by kernel_rfl) (by kernel_rfl) (by kernel_rfl) (fun _ _ _ h => h) (Or.inl ⟨by rfl, ?hy4x11⟩) hSS ?rest4x11
  case hy4x11 =>
    intro W0 hSw
    obtain ⟨s0, s1, s2, s3, s4, s5⟩ := hSw
    go_simp
    first | done | with_reducible rfl
  try simp only [Act.put, List.setIfInBounds_toArray, List.set_cons_zero, List.set_cons_succ]
  refine wpAnyH_take (i := 5) (oi := ({ dst := Option.some 15, op := Go.Op.load 3 (Go.Operand.tmp 14), type := 3, pos := "coordinator.go:83", after := #[{ on := 4, ground := Go.Ground.data }, { on := 3, ground := Go.Ground.guard }], guard := Option.some (3, Bool.false) } : Oper)) (v := ?v5x12) rfl (by kernel_rfl) (by kernel_rfl) (by kernel_rfl) (fun _ _ _ h => h) (Or.inl ⟨by rfl, ?hy5x12⟩) hSS ?rest5x12
  case hy5x12 =>
    intro W0 hSw
    obtain ⟨s0, s1, s2, s3, s4, s5⟩ := hSw
    go_simp
    first | done | with_reducible rfl
  try simp only [Act.put, List.setIfInBounds_toArray, List.set_cons_zero, List.set_cons_succ]
  refine wpAnyH_take (i := 6) (oi := ({ dst := Option.some 16, op := Go.Op.move (Go.Operand.tmp 0), type := 28, pos := "coordinator.go:83", after := #[{ on := 3, ground := Go.Ground.guard }], guard := Option.some (3, Bool.false) } : Oper)) (v := ?v6x13) rfl (by kernel_rfl) (by kernel_rfl) (by kernel_rfl) (fun _ _ _ h => h) (Or.inl ⟨by rfl, ?hy6x13⟩) hSS ?rest6x13
  case hy6x13 =>
    intro W0 hSw
    obtain ⟨s0, s1, s2, s3, s4, s5⟩ := hSw
    go_simp
    first | done | with_reducible rfl
  try simp only [Act.put, List.setIfInBounds_toArray, List.set_cons_zero, List.set_cons_succ]
  refine wpAnyH_take (i := 7) (oi := ({ dst := Option.some 17, op := Go.Op.nilCheck (Go.Operand.tmp 16), type := 0, pos := "coordinator.go:83", after := #[{ on := 6, ground := Go.Ground.data }, { on := 3, ground := Go.Ground.guard }], guard := Option.some (3, Bool.false) } : Oper)) (v := ?v7x14) rfl (by kernel_rfl) (by kernel_rfl) (by kernel_rfl) (fun _ _ _ h => h) (Or.inl ⟨by rfl, ?hy7x14⟩) hSS ?rest7x14
  case hy7x14 =>
    intro W0 hSw
    obtain ⟨s0, s1, s2, s3, s4, s5⟩ := hSw
    go_simp
    first | done | with_reducible rfl
  try simp only [Act.put, List.setIfInBounds_toArray, List.set_cons_zero, List.set_cons_succ]
  refine wpAnyH_take (i := 8) (oi := ({ dst := Option.some 18, op := Go.Op.fieldAddr 63 (Go.Operand.tmp 17) 0, type := 0, pos := "coordinator.go:83", after := #[{ on := 7, ground := Go.Ground.data }, { on := 3, ground := Go.Ground.guard }], guard := Option.some (3, Bool.false) } : Oper)) (v := ?v8x15) rfl (by kernel_rfl) (by kernel_rfl) (by kernel_rfl) (fun _ _ _ h => h) (Or.inl ⟨by rfl, ?hy8x15⟩) hSS ?rest8x15
  case hy8x15 =>
    intro W0 hSw
    obtain ⟨s0, s1, s2, s3, s4, s5⟩ := hSw
    go_simp
    first | done | with_reducible rfl
  try simp only [Act.put, List.setIfInBounds_toArray, List.set_cons_zero, List.set_cons_succ]
  refine wpAnyH_take (i := 9) (oi := ({ dst := Option.some 19, op := Go.Op.load 3 (Go.Operand.tmp 18), type := 3, pos := "coordinator.go:83", after := #[{ on := 8, ground := Go.Ground.data }, { on := 3, ground := Go.Ground.guard }], guard := Option.some (3, Bool.false) } : Oper)) (v := ?v9x16) rfl (by kernel_rfl) (by kernel_rfl) (by kernel_rfl) (fun _ _ _ h => h) (Or.inl ⟨by rfl, ?hy9x16⟩) hSS ?rest9x16
  case hy9x16 =>
    intro W0 hSw
    obtain ⟨s0, s1, s2, s3, s4, s5⟩ := hSw
    go_simp
    first | done | with_reducible rfl
  try simp only [Act.put, List.setIfInBounds_toArray, List.set_cons_zero, List.set_cons_succ]
  refine wpAnyH_take (i := 10) (oi := ({ dst := Option.some 20, op := Go.Op.binOp Go.BinOp.neq 3 (Go.Operand.tmp 15) (Go.Operand.tmp 19) 3, type := 4, pos := "coordinator.go:83", after := #[{ on := 5, ground := Go.Ground.data }, { on := 9, ground := Go.Ground.data }, { on := 3, ground := Go.Ground.guard }], guard := Option.some (3, Bool.false) } : Oper)) (v := ?v10x17) rfl (by kernel_rfl) (by kernel_rfl) (by kernel_rfl) (fun _ _ _ h => h) (Or.inl ⟨by rfl, ?hy10x17⟩) hSS ?rest10x17
  case hy10x17 =>
    intro W0 hSw
    obtain ⟨s0, s1, s2, s3, s4, s5⟩ := hSw
    go_simp
    first | done | with_reducible rfl
  try simp only [Act.put, List.setIfInBounds_toArray, List.set_cons_zero, List.set_cons_succ]
  refine wpAnyH_take (i := 11) (oi := ({ dst := Option.some 21, op := Go.Op.pick (Go.Operand.tmp 13) (Go.Operand.const (Go.Value.bool Bool.true)) (Go.Operand.tmp 20), type := 4, pos := "coordinator.go:83", after := #[{ on := 3, ground := Go.Ground.data }, { on := 10, ground := Go.Ground.data }], guard := Option.none } : Oper)) (v := ?v11x18) rfl (by kernel_rfl) (by kernel_rfl) (by kernel_rfl) (fun _ _ _ h => h) (Or.inl ⟨by rfl, ?hy11x18⟩) hSS ?rest11x18
  case hy11x18 =>
    intro W0 hSw
    obtain ⟨s0, s1, s2, s3, s4, s5⟩ := hSw
    go_simp
    first | done | with_reducible rfl
  try simp only [Act.put, List.setIfInBounds_toArray, List.set_cons_zero, List.set_cons_succ]
  refine wpAnyH_take (i := 12) (oi := ({ dst := Option.some 22, op := Go.Op.move (Go.Operand.tmp 21), type := 4, pos := "coordinator.go:83", after := #[{ on := 11, ground := Go.Ground.data }, { on := 3, ground := Go.Ground.chain }], guard := Option.none } : Oper)) (v := ?v12x19) rfl (by kernel_rfl) (by kernel_rfl) (by kernel_rfl) (fun _ _ _ h => h) (Or.inl ⟨by rfl, ?hy12x19⟩) hSS ?rest12x19
  case hy12x19 =>
    intro W0 hSw
    obtain ⟨s0, s1, s2, s3, s4, s5⟩ := hSw
    go_simp
    first | done | with_reducible rfl
  try simp only [Act.put, List.setIfInBounds_toArray, List.set_cons_zero, List.set_cons_succ]
  refine wpAnyH_take (i := 13) (oi := ({ dst := Option.some 23, op := Go.Op.fieldAddr 46 (Go.Operand.tmp 3) 3, type := 0, pos := "coordinator.go:83", after := #[{ on := 12, ground := Go.Ground.guard }], guard := Option.some (12, Bool.false) } : Oper)) (v := ?v13x20) rfl (by kernel_rfl) (by kernel_rfl) (by kernel_rfl) (fun _ _ _ h => h) (Or.inl ⟨by rfl, ?hy13x20⟩) hSS ?rest13x20
  case hy13x20 =>
    intro W0 hSw
    obtain ⟨s0, s1, s2, s3, s4, s5⟩ := hSw
    go_simp
    first | done | with_reducible rfl
  try simp only [Act.put, List.setIfInBounds_toArray, List.set_cons_zero, List.set_cons_succ]
  refine wpAnyH_take (i := 14) (oi := ({ dst := Option.some 24, op := Go.Op.load 3 (Go.Operand.tmp 23), type := 3, pos := "coordinator.go:83", after := #[{ on := 13, ground := Go.Ground.data }, { on := 12, ground := Go.Ground.guard }], guard := Option.some (12, Bool.false) } : Oper)) (v := ?v14x21) rfl (by kernel_rfl) (by kernel_rfl) (by kernel_rfl) (fun _ _ _ h => h) (Or.inl ⟨by rfl, ?hy14x21⟩) hSS ?rest14x21
  case hy14x21 =>
    intro W0 hSw
    obtain ⟨s0, s1, s2, s3, s4, s5⟩ := hSw
    go_simp
    first | done | with_reducible rfl
  try simp only [Act.put, List.setIfInBounds_toArray, List.set_cons_zero, List.set_cons_succ]
  refine wpAnyH_take (i := 15) (oi := ({ dst := Option.some 25, op := Go.Op.binOp Go.BinOp.rem 3 (Go.Operand.tmp 24) (Go.Operand.const (Go.Value.int Go.IntKind.i64 16)) 3, type := 3, pos := "coordinator.go:83", after := #[{ on := 14, ground := Go.Ground.data }, { on := 12, ground := Go.Ground.guard }], guard := Option.some (12, Bool.false) } : Oper)) (v := ?v15x22) rfl (by kernel_rfl) (by kernel_rfl) (by kernel_rfl) (fun _ _ _ h => h) (Or.inl ⟨by rfl, ?hy15x22⟩) hSS ?rest15x22
  case hy15x22 =>
    intro W0 hSw
    obtain ⟨s0, s1, s2, s3, s4, s5⟩ := hSw
    go_simp
    first | done | with_reducible rfl
  try simp only [Act.put, List.setIfInBounds_toArray, List.set_cons_zero, List.set_cons_succ]
  refine wpAnyH_take (i := 16) (oi := ({ dst := Option.some 26, op := Go.Op.move (Go.Operand.tmp 0), type := 28, pos := "coordinator.go:83", after := #[{ on := 12, ground := Go.Ground.guard }], guard := Option.some (12, Bool.false) } : Oper)) (v := ?v16x23) rfl (by kernel_rfl) (by kernel_rfl) (by kernel_rfl) (fun _ _ _ h => h) (Or.inl ⟨by rfl, ?hy16x23⟩) hSS ?rest16x23
  case hy16x23 =>
    intro W0 hSw
    obtain ⟨s0, s1, s2, s3, s4, s5⟩ := hSw
    go_simp
    first | done | with_reducible rfl
  try simp only [Act.put, List.setIfInBounds_toArray, List.set_cons_zero, List.set_cons_succ]
  refine wpAnyH_take (i := 17) (oi := ({ dst := Option.some 27, op := Go.Op.nilCheck (Go.Operand.tmp 26), type := 0, pos := "coordinator.go:83", after := #[{ on := 16, ground := Go.Ground.data }, { on := 12, ground := Go.Ground.guard }], guard := Option.some (12, Bool.false) } : Oper)) (v := ?v17x24) rfl (by kernel_rfl) (by kernel_rfl) (by kernel_rfl) (fun _ _ _ h => h) (Or.inl ⟨by rfl, ?hy17x24⟩) hSS ?rest17x24
  case hy17x24 =>
    intro W0 hSw
    obtain ⟨s0, s1, s2, s3, s4, s5⟩ := hSw
    go_simp
    first | done | with_reducible rfl
  try simp only [Act.put, List.setIfInBounds_toArray, List.set_cons_zero, List.set_cons_succ]
  refine wpAnyH_take (i := 18) (oi := ({ dst := Option.some 28, op := Go.Op.fieldAddr 63 (Go.Operand.tmp 27) 0, type := 0, pos := "coordinator.go:83", after := #[{ on := 17, ground := Go.Ground.data }, { on := 12, ground := Go.Ground.guard }], guard := Option.some (12, Bool.false) } : Oper)) (v := ?v18x25) rfl (by kernel_rfl) (by kernel_rfl) (by kernel_rfl) (fun _ _ _ h => h) (Or.inl ⟨by rfl, ?hy18x25⟩) hSS ?rest18x25
  case hy18x25 =>
    intro W0 hSw
    obtain ⟨s0, s1, s2, s3, s4, s5⟩ := hSw
    go_simp
    first | done | with_reducible rfl
  try simp only [Act.put, List.setIfInBounds_toArray, List.set_cons_zero, List.set_cons_succ]
  refine wpAnyH_take (i := 19) (oi := ({ dst := Option.some 29, op := Go.Op.load 3 (Go.Operand.tmp 28), type := 3, pos := "coordinator.go:83", after := #[{ on := 18, ground := Go.Ground.data }, { on := 12, ground := Go.Ground.guard }], guard := Option.some (12, Bool.false) } : Oper)) (v := ?v19x26) rfl (by kernel_rfl) (by kernel_rfl) (by kernel_rfl) (fun _ _ _ h => h) (Or.inl ⟨by rfl, ?hy19x26⟩) hSS ?rest19x26
  case hy19x26 =>
    intro W0 hSw
    obtain ⟨s0, s1, s2, s3, s4, s5⟩ := hSw
    go_simp
    first | done | with_reducible rfl
  try simp only [Act.put, List.setIfInBounds_toArray, List.set_cons_zero, List.set_cons_succ]
  refine wpAnyH_take (i := 20) (oi := ({ dst := Option.some 30, op := Go.Op.binOp Go.BinOp.neq 3 (Go.Operand.tmp 25) (Go.Operand.tmp 29) 3, type := 4, pos := "coordinator.go:83", after := #[{ on := 15, ground := Go.Ground.data }, { on := 19, ground := Go.Ground.data }, { on := 12, ground := Go.Ground.guard }], guard := Option.some (12, Bool.false) } : Oper)) (v := ?v20x27) rfl (by kernel_rfl) (by kernel_rfl) (by kernel_rfl) (fun _ _ _ h => h) (Or.inl ⟨by rfl, ?hy20x27⟩) hSS ?rest20x27
  case hy20x27 =>
    intro W0 hSw
    obtain ⟨s0, s1, s2, s3, s4, s5⟩ := hSw
    go_simp
    first | done | with_reducible rfl
  try simp only [Act.put, List.setIfInBounds_toArray, List.set_cons_zero, List.set_cons_succ]
  refine wpAnyH_take (i := 21) (oi := ({ dst := Option.some 31, op := Go.Op.pick (Go.Operand.tmp 22) (Go.Operand.const (Go.Value.bool Bool.true)) (Go.Operand.tmp 30), type := 4, pos := "coordinator.go:83", after := #[{ on := 12, ground := Go.Ground.data }, { on := 20, ground := Go.Ground.data }], guard := Option.none } : Oper)) (v := ?v21x28) rfl (by kernel_rfl) (by kernel_rfl) (by kernel_rfl) (fun _ _ _ h => h) (Or.inl ⟨by rfl, ?hy21x28⟩) hSS ?rest21x28
  case hy21x28 =>
    intro W0 hSw
    obtain ⟨s0, s1, s2, s3, s4, s5⟩ := hSw
    go_simp
    first | done | with_reducible rfl
  try simp only [Act.put, List.setIfInBounds_toArray, List.set_cons_zero, List.set_cons_succ]
  refine wpAnyH_take (i := 22) (oi := ({ dst := Option.some 9, op := Go.Op.assign (Go.Operand.tmp 31), type := 4, pos := "coordinator.go:83", after := #[{ on := 21, ground := Go.Ground.data }, { on := 12, ground := Go.Ground.chain }], guard := Option.none } : Oper)) (v := ?v22x29) rfl (by kernel_rfl) (by kernel_rfl) (by kernel_rfl) (fun _ _ _ h => h) (Or.inl ⟨by rfl, ?hy22x29⟩) hSS ?rest22x29
  case hy22x29 =>
    intro W0 hSw
    obtain ⟨s0, s1, s2, s3, s4, s5⟩ := hSw
    go_simp
    first | done | with_reducible rfl
  try simp only [Act.put, List.setIfInBounds_toArray, List.set_cons_zero, List.set_cons_succ]
  refine wpAnyH_done (by kernel_rfl) ?_ _
  go_upto_region 5 with fail
  have e2 : (k == 2) = false := by rw [HKK.out]; rfl
  have e3 : (k == 3) = false := by rw [HKK.out]; rfl
  have e4 : (k == 4) = true := by rw [HKK.out]; rfl
  have e7 : (k == 7) = false := by rw [HKK.out]; rfl
  have e8 : (k == 8) = false := by rw [HKK.out]; rfl
  have HS5 : Hid (∀ W, Below W0.heap.size W0 W → (fun W : World => W.cell? ⟨S.c, 5, none⟩ = some (.map (some S.m)) ∧ W.cell? ⟨gl, 3, none⟩ = some (.int .i64 X) ∧ (Instr.lookup 61 (.map (some S.m)) (.int .i64 X) false).run Try.prog W = .ok (.agg #[.int .i64 2, .int .i64 (a : Int), .int .i64 (o : Int), .int .i64 0, .int .i64 s]) W) W) := Lib.hid fun W hb => by
    obtain ⟨_, _, _, _, _, d5, _⟩ := box7_ (HCW.out W hb).box
    obtain ⟨_, _, _, l3, _⟩ := box5 (HL5.out W hb)
    exact ⟨d5, l3, HLK.out W hb⟩
  have hS5 := HS5.out _ (HB1.out.trans ((drew_below w1).mono HB1.out.size))
  clear c5
  refine wp_region_held_drew (S := (fun W : World => W.cell? ⟨S.c, 5, none⟩ = some (.map (some S.m)) ∧ W.cell? ⟨gl, 3, none⟩ = some (.int .i64 X) ∧ (Instr.lookup 61 (.map (some S.m)) (.int .i64 X) false).run Try.prog W = .ok (.agg #[.int .i64 2, .int .i64 (a : Int), .int .i64 (o : Int), .int .i64 0, .int .i64 s]) W)) (by kernel_rfl) hS5 (fun _ => ?_)
  refine wpAnyH_take (i := 0) (oi := ({ dst := Option.some 32, op := Go.Op.move (Go.Operand.tmp 0), type := 28, pos := "coordinator.go:86", after := #[], guard := Option.none } : Oper)) (v := ?v0x30) rfl (by kernel_rfl) (by kernel_rfl) (by kernel_rfl) (fun _ _ _ h => h) (Or.inl ⟨by rfl, ?hy0x30⟩) hS5 ?rest0x30
  case hy0x30 =>
    intro W0 hSw
    obtain ⟨s0, s1, s2⟩ := hSw
    go_simp
    first | done | with_reducible rfl
  try simp only [Act.put, List.setIfInBounds_toArray, List.set_cons_zero, List.set_cons_succ]
  refine wpAnyH_take (i := 1) (oi := ({ dst := Option.some 33, op := Go.Op.nilCheck (Go.Operand.tmp 32), type := 0, pos := "coordinator.go:86", after := #[{ on := 0, ground := Go.Ground.data }], guard := Option.none } : Oper)) (v := ?v1x31) rfl (by kernel_rfl) (by kernel_rfl) (by kernel_rfl) (fun _ _ _ h => h) (Or.inl ⟨by rfl, ?hy1x31⟩) hS5 ?rest1x31
  case hy1x31 =>
    intro W0 hSw
    obtain ⟨s0, s1, s2⟩ := hSw
    go_simp
    first | done | with_reducible rfl
  try simp only [Act.put, List.setIfInBounds_toArray, List.set_cons_zero, List.set_cons_succ]
  refine wpAnyH_take (i := 2) (oi := ({ dst := Option.some 34, op := Go.Op.fieldAddr 63 (Go.Operand.tmp 33) 5, type := 0, pos := "coordinator.go:86", after := #[{ on := 1, ground := Go.Ground.data }], guard := Option.none } : Oper)) (v := ?v2x32) rfl (by kernel_rfl) (by kernel_rfl) (by kernel_rfl) (fun _ _ _ h => h) (Or.inl ⟨by rfl, ?hy2x32⟩) hS5 ?rest2x32
  case hy2x32 =>
    intro W0 hSw
    obtain ⟨s0, s1, s2⟩ := hSw
    go_simp
    first | done | with_reducible rfl
  try simp only [Act.put, List.setIfInBounds_toArray, List.set_cons_zero, List.set_cons_succ]
  refine wpAnyH_take (i := 3) (oi := ({ dst := Option.some 35, op := Go.Op.load 61 (Go.Operand.tmp 34), type := 61, pos := "coordinator.go:86", after := #[{ on := 2, ground := Go.Ground.data }], guard := Option.none } : Oper)) (v := ?v3x33) rfl (by kernel_rfl) (by kernel_rfl) (by kernel_rfl) (fun _ _ _ h => h) (Or.inl ⟨by rfl, ?hy3x33⟩) hS5 ?rest3x33
  case hy3x33 =>
    intro W0 hSw
    obtain ⟨s0, s1, s2⟩ := hSw
    go_simp
    first | done | with_reducible rfl
  try simp only [Act.put, List.setIfInBounds_toArray, List.set_cons_zero, List.set_cons_succ]
  refine wpAnyH_take (i := 4) (oi := ({ dst := Option.some 36, op := Go.Op.fieldAddr 46 (Go.Operand.tmp 3) 3, type := 0, pos := "coordinator.go:86", after := #[], guard := Option.none } : Oper)) (v := ?v4x34) rfl (by kernel_rfl) (by kernel_rfl) (by kernel_rfl) (fun _ _ _ h => h) (Or.inl ⟨by rfl, ?hy4x34⟩) hS5 ?rest4x34
  case hy4x34 =>
    intro W0 hSw
    obtain ⟨s0, s1, s2⟩ := hSw
    go_simp
    first | done | with_reducible rfl
  try simp only [Act.put, List.setIfInBounds_toArray, List.set_cons_zero, List.set_cons_succ]
  refine wpAnyH_take (i := 5) (oi := ({ dst := Option.some 37, op := Go.Op.load 3 (Go.Operand.tmp 36), type := 3, pos := "coordinator.go:86", after := #[{ on := 4, ground := Go.Ground.data }], guard := Option.none } : Oper)) (v := ?v5x35) rfl (by kernel_rfl) (by kernel_rfl) (by kernel_rfl) (fun _ _ _ h => h) (Or.inl ⟨by rfl, ?hy5x35⟩) hS5 ?rest5x35
  case hy5x35 =>
    intro W0 hSw
    obtain ⟨s0, s1, s2⟩ := hSw
    go_simp
    first | done | with_reducible rfl
  try simp only [Act.put, List.setIfInBounds_toArray, List.set_cons_zero, List.set_cons_succ]
  refine wpAnyH_take (i := 6) (oi := ({ dst := Option.some 38, op := Go.Op.lookup 61 (Go.Operand.tmp 35) (Go.Operand.tmp 37) Bool.false, type := 67, pos := "coordinator.go:86", after := #[{ on := 3, ground := Go.Ground.data }, { on := 5, ground := Go.Ground.data }], guard := Option.none } : Oper)) (v := ?v6x36) rfl (by kernel_rfl) (by kernel_rfl) (by kernel_rfl) (fun _ _ _ h => h) (Or.inl ⟨by rfl, ?hy6x36⟩) hS5 ?rest6x36
  case hy6x36 =>
    intro W0 hSw
    obtain ⟨s0, s1, s2⟩ := hSw
    go_simp
    first | done | with_reducible rfl
  try simp only [Act.put, List.setIfInBounds_toArray, List.set_cons_zero, List.set_cons_succ]
  refine wpAnyH_ready (rs := [7]) (by kernel_rfl) (by simp) ?_
  refine AllReadyH.cons (o := ({ dst := Option.some 5, op := Go.Op.alloc 67, type := 0, pos := "coordinator.go:86", after := #[], guard := Option.none } : Oper)) rfl (fun K0 hK0 => ?_) AllReadyH.nil
  go_simp
  refine hK0.out _ _ (HS5.out _ ?hb7) (fun _ => ?_)
  case hb7 => first | exact HB1.out.trans (((alloc_below w1 _).trans ((drew_below _).mono (by simp))).mono HB1.out.size) | exact HB1.out.trans (((drew_below w1).trans (alloc_below w1.drew _)).mono HB1.out.size)
  clear hK0 K0
  try simp only [Act.put, List.setIfInBounds_toArray, List.set_cons_zero, List.set_cons_succ]
  refine wpAnyH_ready (rs := [8]) (by kernel_rfl) (by simp) ?_
  refine AllReadyH.cons (o := ({ dst := Option.none, op := Go.Op.store 67 (Go.Operand.tmp 5) (Go.Operand.tmp 38), type := 0, pos := "coordinator.go:86", after := #[{ on := 7, ground := Go.Ground.data }, { on := 6, ground := Go.Ground.data }, { on := 0, ground := Go.Ground.phase }, { on := 1, ground := Go.Ground.phase }, { on := 2, ground := Go.Ground.phase }, { on := 3, ground := Go.Ground.phase }, { on := 4, ground := Go.Ground.phase }, { on := 5, ground := Go.Ground.phase }, { on := 6, ground := Go.Ground.phase }, { on := 7, ground := Go.Ground.phase }], guard := Option.none } : Oper)) rfl (fun K0 hK0 => ?_) AllReadyH.nil
  go_simp
  refine hK0.out _ _ (HS5.out _ ?hb8) (fun _ => ?_)
  case hb8 => first | exact HB1.out.trans (((alloc_below w1 _).trans ((drew_below _).mono (by simp))).mono HB1.out.size) | exact HB1.out.trans (((drew_below w1).trans (alloc_below w1.drew _)).mono HB1.out.size)
  clear hK0 K0
  try simp only [Act.put, List.setIfInBounds_toArray, List.set_cons_zero, List.set_cons_succ]
  refine wpAnyH_done (by kernel_rfl) ?_ _
  obtain ⟨W5, hW5⟩ : ∃ W5, Hid (W5 = (w1.alloc (.cells #[.int .i64 2, .int .i64 (a : Int), .int .i64 (o : Int), .int .i64 0, .int .i64 s] 67)).drew) := ⟨_, Lib.hid rfl⟩
  rw [← hW5.out]
  have hb5 : Below W0.heap.size W0 W5 := by rw [hW5.out]; exact HB1.out.trans (((alloc_below w1 _).trans ((drew_below _).mono (by simp))).mono HB1.out.size)
  have ht5 : W5.heap[w1.heap.size]? = some (.cells #[.int .i64 2, .int .i64 (a : Int), .int .i64 (o : Int), .int .i64 0, .int .i64 s] 67 (0, 0)) := by rw [hW5.out]; exact heap_alloc_new w1 _
  obtain ⟨l0, l1, l2, l3, l4⟩ := box5 (HL5.out _ hb5)
  obtain ⟨z0, z1, z2, z3, z4⟩ := box5 ht5
  have hcw := HCW.out _ hb5
  have hvn := HVN.out _ hb5
  rw [← HXX.out, ← HKK.out] at hvn
  have HVN2 := Lib.hid hvn
  have HB5 := Lib.hid hb5
  clear hvn
  clear hb5 ht5 hcw
  go_wp2_with (go_at_call 29; refine HVN2.out.mono ?_; rintro e1 w6 ⟨rfl, hl⟩
               have HE := Lib.hid ((hl.pre HB5.out).pre HB0.out)
               clear hl)
  go_ret
  exact ⟨rfl, HE.out⟩
end

section
open Go.RowKit Go.Maps Go.Sort Go.Shelf
end

section
open Go.RowKit
/-- due at tick k -/
def Te.due (k : Nat) (e : Te) : Bool := !(decide (e.s = 1)) && decide (e.t + 5 ≤ k)
/-- what a tick asks or tells -/
def Te.ask (e : Te) : Int := if e.s = 3 then 5 else 1
def Te.nn (e : Te) : Nat := if e.s = 3 then 0 else (nodesI e.a).length
/-- a tick at one transaction: all of them, and what is sent -/
def tk1 (node k : Nat) (p : List Te × List (Int × Int × Int × Int × Nat)) (x : Int) : List Te × List (Int × Int × Int × Int × Nat) :=
  match findT p.1 x.toNat with
  | some e => if e.due k then (putT p.1 { e with t := k }, p.2 ++ coreL e.ask node e.n e.nn (nodesI e.o)) else p
  | none => p
def TkOk (k : Nat) (T : List Te) : Prop := ∀ e ∈ T, (e.s = 1 ∨ e.s = 2 ∨ e.s = 3) ∧ e.a < 65536 ∧ e.o < 65536 ∧ e.n < 4000000000000 ∧ e.t ≤ k
theorem dropT_mem {T : List Te} {x : Nat} {e : Te} (h : e ∈ dropT T x) : e ∈ T := (List.mem_filter.1 h).1
theorem TkOk.put {k : Nat} {T : List Te} (h : TkOk k T) {e : Te} (he : (e.s = 1 ∨ e.s = 2 ∨ e.s = 3) ∧ e.a < 65536 ∧ e.o < 65536 ∧ e.n < 4000000000000 ∧ e.t ≤ k) : TkOk k (putT T e) := fun u hu => by
  unfold putT at hu
  rcases List.mem_append.1 hu with h1 | h1
  · exact h u (dropT_mem h1)
  · rw [List.mem_singleton] at h1; subst h1; exact he
theorem TkOk.one {k node : Nat} {p : List Te × List (Int × Int × Int × Int × Nat)} (h : TkOk k p.1) (x : Int) : TkOk k (tk1 node k p x).1 := by
  unfold tk1
  split
  · next e he =>
    split
    · obtain ⟨h1, h2, h3, h4, _⟩ := h e (findT_some he).1
      exact h.put ⟨h1, h2, h3, h4, Nat.le_refl _⟩
    · exact h
  · exact h
theorem coreL_len (k : Int) (node x nn : Nat) (ns : List Int) : (coreL k node x nn ns).length = ns.length := by simp [coreL]
end

section
open Go.RowKit
theorem OwnI.mapped {S : CoS} {w3 w6 : World} {B0 B : Nat} {v : Value} {ns : List Int} (h : OwnI w3 B0 v ns) (hc : Co w3 B S) (hO : Only (· = S.m) w3 w6) : OwnI w6 B0 v ns := by
  refine ⟨⟨h.1.1, ?_⟩, h.2⟩
  rcases h.1.2 with h1 | ⟨g, cap, cur, rfl, h3, h4, h5⟩
  · exact .inl h1
  · exact .inr ⟨g, cap, cur, rfl, h3, (hO.block g (lt_of_heap h4) (hc.map.noCells h4)).trans h4, h5⟩
theorem dropT_len_le (T : List Te) (x : Nat) : (dropT T x).length ≤ T.length := List.length_filter_le _ _
end
end Go.Proofs.Ytogogekmodbdiaa
