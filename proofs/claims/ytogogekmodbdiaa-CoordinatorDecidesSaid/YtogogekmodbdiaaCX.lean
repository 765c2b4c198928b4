/- The coordinator: votes of Yes, commit, done, and Hear of these. -/
import Derived.Test.YtogogekmodbdiaaOUX
namespace Go.Proofs.Ytogogekmodbdiaa
section
open Go.RowKit
theorem or_lt16 {y f : Nat} (hy : y < 65536) (hf : f < 16) : y ||| 2 ^ f < 65536 := Nat.or_lt_two_pow (n := 16) hy (pow16n hf)
theorem or_ne {y f : Nat} : y ||| 2 ^ f ≠ 0 := fun h => by
  have h1 := congrArg (fun n => Nat.testBit n f) h
  simp [Nat.testBit_or] at h1
/-- what an operation may turn, that writes to the log too -/
def FrA (S : CoS) (w w' : World) (v : Value) (g' d' : Nat) : Prop := Only (CoK S) w w' ∧ (∀ j, v.ownBlock = some j → S.ov.ownBlock = some j ∨ w.heap.size ≤ j) ∧ (g' = S.g ∨ w.heap.size ≤ g') ∧ (d' = S.d ∨ w.heap.size ≤ d')
theorem Co.low {w : World} {B : Nat} {S : CoS} (h : Co w B S) : ∀ j, CoK S j → B ≤ j := fun j hj => by
  have l1 := h.log.ge
  have l2 := h.log.disk.ge
  have l3 := h.ge
  rcases hj with hj | hj | hj | hj | hj | hj | hj
  all_goals first | omega | exact h.out.ge j hj
theorem FrA.below {S : CoS} {w0 w w' : World} {B g' d' : Nat} {v : Value} (h : FrA S w w' v g' d') (hc : Co w B S) (hb : Below B w0 w) : Below B w0 w' := hb.trans (h.1.below hc.size hc.low)
theorem FrM.all {S : CoS} {w w' : World} {v : Value} (h : FrM S w w' v) : FrA S w w' v S.g S.d := ⟨h.1.more fun j _ hj => by
  unfold CoK
  rcases hj with hj | hj | hj
  · exact .inl hj
  · exact .inr (.inl hj)
  · exact .inr (.inr (.inr (.inr (.inr (.inr hj))))), h.2, .inl rfl, .inl rfl⟩
/-- behind a record that was written to the log -/
theorem Co.logged {w w' : World} {B : Nat} {S : CoS} (h : Co w B S) {g' d' s' : Nat} {rs' : List (List UInt8)} (hw : Wl w' B S.q S.p g' d' S.b s' [] rs') (hO : Only (fun k => k = S.q ∨ k = S.p ∨ k = S.g ∨ k = S.d) w w') (hg : g' = S.g ∨ w.heap.size ≤ g') (hd : d' = S.d ∨ w.heap.size ≤ d') : Co w' B { S with g := g', d := d', s := s', pre := [], rs := rs' } := by
  have n1 := h.ne
  have n2 := h.nm
  have n3 := h.no
  have l1 := h.lt
  have l2 := h.map.lt
  refine ⟨(hO.block S.c l1 (fun e => by omega)).trans h.box, hw, h.map.kept (hO.block S.m l2 (fun e => by omega)), h.out.kept fun k hk => ?_, h.ge, ?_, ?_, fun k hk => ?_, h.nod⟩
  · obtain ⟨cs, hh⟩ := h.out.blk k hk
    have := n3 k hk
    exact hO.block k (lt_of_heap hh) (fun e => by omega)
  · show S.c ≠ S.q ∧ S.c ≠ S.p ∧ S.c ≠ g' ∧ S.c ≠ d'
    omega
  · show S.m ≠ S.q ∧ S.m ≠ S.p ∧ S.m ≠ g' ∧ S.m ≠ d'
    omega
  · show k ≠ S.q ∧ k ≠ S.p ∧ k ≠ g' ∧ k ≠ d'
    obtain ⟨cs, hh⟩ := h.out.blk k hk
    have := lt_of_heap hh
    have := n3 k hk
    omega
theorem rd_twoI (w : World) (x y : Int) : RdI (w.alloc (.cells #[.int .i64 x, .int .i64 y] 3)) (w.alloc (.cells #[.int .i64 x, .int .i64 y] 3)).heap.size (some ⟨w.heap.size, 0, none⟩) [x, y] := fun _ => ⟨_, _, rfl, by simp, fun j d hj => by
  have hh : (w.alloc (.cells #[.int .i64 x, .int .i64 y] 3)).heap[w.heap.size]? = _ := heap_alloc_new w _
  rw [cell_of_row _ _ _ _ _ (0, 0) hh]
  match j with
  | 0 => simp at hj; subst hj; rfl
  | 1 => simp at hj; subst hj; rfl
  | j + 2 => simp at hj⟩
/-- the record of a decision -/
def decR (x y : Nat) : List UInt8 := rowB (recV 1 [(x : Int), (y : Int)])
/-- what a commit of those that voted Yes leaves -/
def CmT (w : World) (B : Nat) (S : CoS) (x y : Nat) (w' : World) : Prop := ∃ v os1 g' d', Co w' B { S with g := g', d := d', s := S.b + (bytesOf (S.rs ++ [decR x y])).length, pre := [], rs := S.rs ++ [decR x y], T := putT S.T ⟨x, 3, 0, y, 0, S.tks⟩, ov := v, os := S.os ++ os1 } ∧ os1.map Le.core = coreL 5 S.node x 0 (nodesI y) ∧ FrA S w w' v g' d'
theorem CmT.pre {w w1 w3 : World} {B : Nat} {S : CoS} {x y : Nat} (hb : Below w.heap.size w w1) (h : CmT w1 B S x y w3) : CmT w B S x y w3 := by
  obtain ⟨v, os1, g', d', h1, h2, h3, h4, h5, h6⟩ := h
  have hz := hb.size
  exact ⟨v, os1, g', d', h1, h2, (Only.of_below hb).trans h3 fun j _ hj => hj, fun j hj => (h4 j hj).imp id fun h => Nat.le_trans hz h, h5.imp id fun h => Nat.le_trans hz h, h6.imp id fun h => Nat.le_trans hz h⟩
set_option maxRecDepth 100000 in
set_option maxHeartbeats 16000000 in
theorem vote_yes {w : World} {B : Nat} {S : CoS} (h : Co w B S) (t : Int) {f x : Nat} (hf16 : f < 16) (hx : i64ok (x : Int)) {a o : Nat} (ho : o < 65536) (y s : Nat) (hy : y < 65536) (hof : o.testBit f = true) (hw0 : woB o f ≠ 0) (hT : S.T.length < 1000) :
    Calls Try.prog 29 #[.pointer (some ⟨S.c, 0, none⟩), .agg #[.int .i64 2, .int .i64 (f : Int), .int .i64 t, .int .i64 (x : Int), .slice none 0 0], .agg #[.int .i64 2, .int .i64 (a : Int), .int .i64 (o : Int), .int .i64 (y : Int), .int .i64 (s : Int)]] w (fun e w' => e = .returned (.int .i64 0) ∧ LtT w B S (putT S.T ⟨x, 2, a, woB o f, y ||| 2 ^ f, s⟩) [] w') := by
  have HH := Lib.hid (fun W => has_any (n := f) ho hf16 W)
  rw [hof] at HH
  have HWP := Lib.hid (fun W => without_any (n := f) ho hf16 W)
  obtain ⟨yy, hyy⟩ : ∃ yy, yy = y ||| 2 ^ f := ⟨_, rfl⟩
  have HWI := Lib.hid (fun W => with_any (n := f) hy hf16 W)
  rw [← hyy] at HWI ⊢
  have hz0 : (((woB o f : Nat) : Int) == 0) = false := by simp; omega
  obtain ⟨X, hX⟩ : ∃ X : Int, X = (x : Int) := ⟨_, rfl⟩
  have HX := Lib.hid hX
  obtain ⟨L5, hL5⟩ : ∃ L5, L5 = Obj.cells #[.int .i64 2, .int .i64 (f : Int), .int .i64 t, .int .i64 X, .slice none 0 0] 46 := ⟨_, rfl⟩
  obtain ⟨T5, hT5⟩ : ∃ T5, T5 = Obj.cells #[.int .i64 2, .int .i64 (a : Int), .int .i64 (o : Int), .int .i64 (y : Int), .int .i64 (s : Int)] 67 := ⟨_, rfl⟩
  have hb2 := alloc2_below w L5 T5
  have hl5 : ((w.alloc L5).alloc T5).heap[w.heap.size]? = some L5 := ((alloc_below (w.alloc L5) T5).block _ (by simp)).trans (heap_alloc_new w L5)
  have ht5 := heap_alloc_new (w.alloc L5) T5
  rw [show (w.alloc L5).heap.size = w.heap.size + 1 by simp] at ht5
  have HCW : Hid (∀ W, Below w.heap.size w W → Co W B S) := Lib.hid fun W hb => h.below hb
  rw [hT5] at ht5
  have f2 := frozen_of ht5 2
  have f3 := frozen_of ht5 3
  rw [hL5] at ht5 f2 f3
  obtain ⟨_, _, z2, z3, _⟩ := box5 ht5
  have HST : Hid (∀ W, Below w.heap.size w W → ∃ w2, (Instr.mapUpdate 61 (.map (some S.m)) (.int .i64 X) (.agg #[.int .i64 2, .int .i64 (a : Int), .int .i64 ((woB o f : Nat) : Int), .int .i64 (yy : Int), .int .i64 (s : Int)])).run Try.prog W = .ok () w2 ∧ Co w2 B { S with T := putT S.T ⟨x, 2, a, woB o f, yy, s⟩ } ∧ Only (· = S.m) W w2) := Lib.hid fun W hb => by
    have hc := h.below hb
    obtain ⟨w2, h1, h2, h3⟩ := hc.map.store hT hx 2 a (woB o f) yy s (.agg #[.int .i64 2, .int .i64 (a : Int), .int .i64 ((woB o f : Nat) : Int), .int .i64 (yy : Int), .int .i64 (s : Int)]) rfl
    exact ⟨w2, by rw [hX]; exact h1, hc.mapped h3 h2, h3⟩
  rw [← hX]
  clear h hf16 hx ho hof hy hyy hX hL5 hT5 hl5 ht5 hb2 hw0 hT
  go_enter Try.func29, Try.ntmps29
  go_upto_region 12 with (first
    | (go_at_call 47; refine (HH.out _).mono ?_; rintro e1 w1 ⟨rfl, rfl⟩)
    | (go_at_call 48; refine (HWP.out _).mono ?_; rintro e1 w1 ⟨rfl, rfl⟩)
    | (go_at_call 45; refine (HWI.out _).mono ?_; rintro e1 w1 ⟨rfl, rfl⟩))
  clear z2 f2 z3 f3
  obtain ⟨W0, hW0⟩ : ∃ W0, Hid (W0 = (w.alloc (.cells #[.int .i64 2, .int .i64 (f : Int), .int .i64 t, .int .i64 X, .slice none 0 0] 46)).alloc (.cells #[.int .i64 2, .int .i64 (a : Int), .int .i64 ((woB o f : Nat) : Int), .int .i64 (yy : Int), .int .i64 (s : Int)] 67)) := ⟨_, Lib.hid rfl⟩
  rw [← hW0.out]
  have hb0 : Below w.heap.size w W0 := by rw [hW0.out]; exact alloc2_below w _ _
  have hl0 : W0.heap[w.heap.size]? = some (.cells #[.int .i64 2, .int .i64 (f : Int), .int .i64 t, .int .i64 X, .slice none 0 0] 46 (0, 0)) := by rw [hW0.out]; exact ((alloc_below (w.alloc _) _).block _ (by simp)).trans (heap_alloc_new w _)
  have ht0 : W0.heap[w.heap.size + 1]? = some (.cells #[.int .i64 2, .int .i64 (a : Int), .int .i64 ((woB o f : Nat) : Int), .int .i64 (yy : Int), .int .i64 (s : Int)] 67 (0, 0)) := by
    have h1 := heap_alloc_new (w.alloc (.cells #[.int .i64 2, .int .i64 (f : Int), .int .i64 t, .int .i64 X, .slice none 0 0] 46)) (.cells #[.int .i64 2, .int .i64 (a : Int), .int .i64 ((woB o f : Nat) : Int), .int .i64 (yy : Int), .int .i64 (s : Int)] 67)
    rw [show (w.alloc (.cells #[.int .i64 2, .int .i64 (f : Int), .int .i64 t, .int .i64 X, .slice none 0 0] 46)).heap.size = w.heap.size + 1 by simp] at h1
    rw [hW0.out]; exact h1
  obtain ⟨gl, hgl⟩ : ∃ gl, gl = w.heap.size := ⟨_, rfl⟩
  obtain ⟨gt, hgt⟩ : ∃ gt, gt = w.heap.size + 1 := ⟨_, rfl⟩
  obtain ⟨A1, hA1⟩ : ∃ A1 : Int, A1 = (a : Int) := ⟨_, rfl⟩
  obtain ⟨O1, hO1⟩ : ∃ O1 : Int, O1 = ((woB o f : Nat) : Int) := ⟨_, rfl⟩
  obtain ⟨Y1, hY1⟩ : ∃ Y1 : Int, Y1 = (yy : Int) := ⟨_, rfl⟩
  obtain ⟨S1, hS1⟩ : ∃ S1 : Int, S1 = (s : Int) := ⟨_, rfl⟩
  rw [← hA1, ← hO1, ← hY1, ← hS1] at HST
  rw [← hO1, ← hA1, ← hY1, ← hS1] at ht0
  have hl1 : W0.drew.heap[gl]? = some (.cells #[.int .i64 2, .int .i64 (f : Int), .int .i64 t, .int .i64 X, .slice none 0 0] 46 (0, 0)) := by rw [hgl]; exact hl0
  have ht1 := (show W0.drew.heap[w.heap.size + 1]? = W0.heap[w.heap.size + 1]? from rfl).trans ht0
  rw [← hgt] at ht1
  have hbd := hb0.trans ((drew_below W0).mono hb0.size)
  have hcd := HCW.out _ hbd
  obtain ⟨w2, hmp, hc2, hOm⟩ := HST.out _ hbd
  have HBW := Lib.hid hbd
  have HE : Hid (LtT w B S (putT S.T ⟨x, 2, a, woB o f, yy, s⟩) [] w2) := Lib.hid ⟨S.ov, [], by rw [List.append_nil]; exact hc2, rfl, (Only.of_below hbd).trans hOm fun j _ hj => .inr (.inl hj), fun j hj => .inl hj⟩
  have hml : S.m < w.heap.size := (HCW.out w (Below.refl _ _)).map.lt
  have hSS : (fun W : World => W.cell? ⟨S.c, 5, none⟩ = some (.map (some S.m)) ∧ W.cell? ⟨gl, 3, none⟩ = some (.int .i64 X) ∧ W.cell? ⟨gt, 0, none⟩ = some (.int .i64 2) ∧ W.cell? ⟨gt, 1, none⟩ = some (.int .i64 A1) ∧ W.cell? ⟨gt, 2, none⟩ = some (.int .i64 O1) ∧ W.cell? ⟨gt, 3, none⟩ = some (.int .i64 Y1) ∧ W.cell? ⟨gt, 4, none⟩ = some (.int .i64 S1)) W0.drew := by
    obtain ⟨_, _, _, _, _, c5, _⟩ := box7_ hcd.box
    obtain ⟨_, l1, _, l3, _⟩ := box5 hl1
    obtain ⟨t0, t1, t2, t3, t4⟩ := box5 ht1
    exact ⟨c5, l3, t0, t1, t2, t3, t4⟩
  have hS2 : Hid ((fun W : World => W.cell? ⟨S.c, 5, none⟩ = some (.map (some S.m)) ∧ W.cell? ⟨gl, 3, none⟩ = some (.int .i64 X) ∧ W.cell? ⟨gt, 0, none⟩ = some (.int .i64 2) ∧ W.cell? ⟨gt, 1, none⟩ = some (.int .i64 A1) ∧ W.cell? ⟨gt, 2, none⟩ = some (.int .i64 O1) ∧ W.cell? ⟨gt, 3, none⟩ = some (.int .i64 Y1) ∧ W.cell? ⟨gt, 4, none⟩ = some (.int .i64 S1)) w2) := Lib.hid (by
    obtain ⟨_, _, _, _, _, c5, _⟩ := box7_ hc2.box
    have e1 := (hOm.block gl (by rw [hgl]; exact lt_of_heap hl0) (fun hj => by omega)).trans hl1
    have e2 := (hOm.block gt (by rw [hgt]; exact lt_of_heap ht0) (fun hj => by omega)).trans ht1
    obtain ⟨_, l1, _, l3, _⟩ := box5 e1
    obtain ⟨t0, t1, t2, t3, t4⟩ := box5 e2
    exact ⟨c5, l3, t0, t1, t2, t3, t4⟩)
  rw [← hgt, ← hgl]
  clear hb0 hl0 ht0 hl1 ht1 hgl hgt hcd hc2 hOm hbd hml HH HWP HWI HCW HST hA1 hO1 hY1 hS1 hz0
  refine wp_region_held_drew (S := (fun W : World => W.cell? ⟨S.c, 5, none⟩ = some (.map (some S.m)) ∧ W.cell? ⟨gl, 3, none⟩ = some (.int .i64 X) ∧ W.cell? ⟨gt, 0, none⟩ = some (.int .i64 2) ∧ W.cell? ⟨gt, 1, none⟩ = some (.int .i64 A1) ∧ W.cell? ⟨gt, 2, none⟩ = some (.int .i64 O1) ∧ W.cell? ⟨gt, 3, none⟩ = some (.int .i64 Y1) ∧ W.cell? ⟨gt, 4, none⟩ = some (.int .i64 S1))) (by kernel_rfl) hSS (fun _ => ?_)
  refine wpAnyH_take (i := 0) (oi := ({ dst := Option.some 56, op := Go.Op.move (Go.Operand.tmp 0), type := 28, pos := "decision.go:22", after := #[], guard := Option.none } : Oper)) (v := ?v0x1) rfl (by kernel_rfl) (by kernel_rfl) (by kernel_rfl) (fun _ _ _ h => h) (Or.inl ⟨by rfl, ?hy0x1⟩) hSS ?rest0x1
  case hy0x1 =>
    intro W0 hSw
    obtain ⟨s0, s1, s2, s3, s4, s5, s6⟩ := hSw
    go_simp
    first | done | with_reducible rfl
  try simp only [Act.put, List.setIfInBounds_toArray, List.set_cons_zero, List.set_cons_succ]
  refine wpAnyH_take (i := 1) (oi := ({ dst := Option.some 57, op := Go.Op.nilCheck (Go.Operand.tmp 56), type := 0, pos := "decision.go:22", after := #[{ on := 0, ground := Go.Ground.data }], guard := Option.none } : Oper)) (v := ?v1x2) rfl (by kernel_rfl) (by kernel_rfl) (by kernel_rfl) (fun _ _ _ h => h) (Or.inl ⟨by rfl, ?hy1x2⟩) hSS ?rest1x2
  case hy1x2 =>
    intro W0 hSw
    obtain ⟨s0, s1, s2, s3, s4, s5, s6⟩ := hSw
    go_simp
    first | done | with_reducible rfl
  try simp only [Act.put, List.setIfInBounds_toArray, List.set_cons_zero, List.set_cons_succ]
  refine wpAnyH_take (i := 2) (oi := ({ dst := Option.some 58, op := Go.Op.fieldAddr 63 (Go.Operand.tmp 57) 5, type := 0, pos := "decision.go:22", after := #[{ on := 1, ground := Go.Ground.data }], guard := Option.none } : Oper)) (v := ?v2x3) rfl (by kernel_rfl) (by kernel_rfl) (by kernel_rfl) (fun _ _ _ h => h) (Or.inl ⟨by rfl, ?hy2x3⟩) hSS ?rest2x3
  case hy2x3 =>
    intro W0 hSw
    obtain ⟨s0, s1, s2, s3, s4, s5, s6⟩ := hSw
    go_simp
    first | done | with_reducible rfl
  try simp only [Act.put, List.setIfInBounds_toArray, List.set_cons_zero, List.set_cons_succ]
  refine wpAnyH_take (i := 3) (oi := ({ dst := Option.some 59, op := Go.Op.load 61 (Go.Operand.tmp 58), type := 61, pos := "decision.go:22", after := #[{ on := 2, ground := Go.Ground.data }], guard := Option.none } : Oper)) (v := ?v3x4) rfl (by kernel_rfl) (by kernel_rfl) (by kernel_rfl) (fun _ _ _ h => h) (Or.inl ⟨by rfl, ?hy3x4⟩) hSS ?rest3x4
  case hy3x4 =>
    intro W0 hSw
    obtain ⟨s0, s1, s2, s3, s4, s5, s6⟩ := hSw
    go_simp
    first | done | with_reducible rfl
  try simp only [Act.put, List.setIfInBounds_toArray, List.set_cons_zero, List.set_cons_succ]
  refine wpAnyH_take (i := 4) (oi := ({ dst := Option.some 60, op := Go.Op.fieldAddr 46 (Go.Operand.tmp 4) 3, type := 0, pos := "decision.go:22", after := #[], guard := Option.none } : Oper)) (v := ?v4x5) rfl (by kernel_rfl) (by kernel_rfl) (by kernel_rfl) (fun _ _ _ h => h) (Or.inl ⟨by rfl, ?hy4x5⟩) hSS ?rest4x5
  case hy4x5 =>
    intro W0 hSw
    obtain ⟨s0, s1, s2, s3, s4, s5, s6⟩ := hSw
    go_simp
    first | done | with_reducible rfl
  try simp only [Act.put, List.setIfInBounds_toArray, List.set_cons_zero, List.set_cons_succ]
  refine wpAnyH_take (i := 5) (oi := ({ dst := Option.some 61, op := Go.Op.load 3 (Go.Operand.tmp 60), type := 3, pos := "decision.go:22", after := #[{ on := 4, ground := Go.Ground.data }], guard := Option.none } : Oper)) (v := ?v5x6) rfl (by kernel_rfl) (by kernel_rfl) (by kernel_rfl) (fun _ _ _ h => h) (Or.inl ⟨by rfl, ?hy5x6⟩) hSS ?rest5x6
  case hy5x6 =>
    intro W0 hSw
    obtain ⟨s0, s1, s2, s3, s4, s5, s6⟩ := hSw
    go_simp
    first | done | with_reducible rfl
  try simp only [Act.put, List.setIfInBounds_toArray, List.set_cons_zero, List.set_cons_succ]
  refine wpAnyH_take (i := 6) (oi := ({ dst := Option.some 62, op := Go.Op.load 67 (Go.Operand.tmp 5), type := 67, pos := "decision.go:22", after := #[], guard := Option.none } : Oper)) (v := ?v6x7) rfl (by kernel_rfl) (by kernel_rfl) (by kernel_rfl) (fun _ _ _ h => h) (Or.inl ⟨by rfl, ?hy6x7⟩) hSS ?rest6x7
  case hy6x7 =>
    intro W0 hSw
    obtain ⟨s0, s1, s2, s3, s4, s5, s6⟩ := hSw
    go_simp
    first | done | with_reducible rfl
  try simp only [Act.put, List.setIfInBounds_toArray, List.set_cons_zero, List.set_cons_succ]
  refine wpAnyH_ready (rs := [7]) (by kernel_rfl) (by simp) ?_
  refine AllReadyH.cons (o := ({ dst := Option.none, op := Go.Op.mapUpdate 61 (Go.Operand.tmp 59) (Go.Operand.tmp 61) (Go.Operand.tmp 62), type := 0, pos := "decision.go:22", after := #[{ on := 3, ground := Go.Ground.data }, { on := 5, ground := Go.Ground.data }, { on := 6, ground := Go.Ground.data }, { on := 0, ground := Go.Ground.phase }, { on := 1, ground := Go.Ground.phase }, { on := 2, ground := Go.Ground.phase }, { on := 3, ground := Go.Ground.phase }, { on := 4, ground := Go.Ground.phase }, { on := 5, ground := Go.Ground.phase }, { on := 6, ground := Go.Ground.phase }], guard := Option.none } : Oper)) rfl (fun K0 hK0 => ?_) AllReadyH.nil
  go_simp
  refine hK0.out _ _ hS2.out (fun _ => ?_)
  clear hK0 K0
  try simp only [Act.put, List.setIfInBounds_toArray, List.set_cons_zero, List.set_cons_succ]
  refine wpAnyH_done (by kernel_rfl) ?_ _
  go_wp2_with fail
  go_ret
  exact ⟨rfl, HE.out⟩
set_option maxRecDepth 100000 in
set_option maxHeartbeats 16000000 in
theorem commit_yes {w : World} {B : Nat} {S : CoS} (h : Co w B S) {x y : Nat} (hx : i64ok (x : Int)) (hy : y < 65536) (hy0 : y ≠ 0) (hT : S.T.length < 1000) (hos : S.os.length ≤ 50000) (hroom : S.b + (bytesOf S.rs).length + 905 ≤ 100000) :
    Calls Try.prog 49 #[.pointer (some ⟨S.c, 0, none⟩), .int .i64 (x : Int), .int .i64 (y : Int)] w (fun e w' => e = .returned (.int .i64 0) ∧ CmT w B S x y w') := by
  have hz0 : ((y : Int) == 0) = false := by simp; omega
  obtain ⟨AO, hAO⟩ : ∃ AO, AO = Obj.cells #[.int .i64 (x : Int), .int .i64 (y : Int)] 3 := ⟨_, rfl⟩
  have hb0 := alloc_below w AO
  have hr0 := rd_twoI w (x : Int) (y : Int)
  rw [← hAO] at hr0
  have hc0 := h.below hb0
  have hyi : i64ok (y : Int) := by unfold i64ok; omega
  have HF := Lib.hid (cforce_any hc0.log hc0.size hc0.lt (box7_ hc0.box).2.1 hc0.ne 1 [(x : Int), (y : Int)] (some ⟨w.heap.size, 0, none⟩) 2 2 rfl (by omega) (by unfold i64ok; omega) (by intro z hz; simp at hz; rcases hz with rfl | rfl; exact hx; exact hyi) hr0 hroom)
  have HC0 := Lib.hid hc0
  have HB0 := Lib.hid hb0
  have HX := Lib.hid hx
  have HY := Lib.hid hy
  have HT := Lib.hid hT
  have HOS := Lib.hid hos
  rw [hAO] at HF HC0 HB0
  clear h hx hy hy0 hT hos hroom hAO hb0 hr0 hc0 hyi
  go_enter Try.func49, Try.ntmps49
  go_upto_region 7 with (go_at_call 42; refine HF.out.mono ?_; rintro e1 w1 ⟨rfl, g', d', hw1, hO1, hg1, hd1⟩
                         have HC1 := Lib.hid (HC0.out.logged hw1 hO1 hg1 hd1)
                         have HO1 := Lib.hid hO1
                         have HG1 := Lib.hid (And.intro hg1 hd1)
                         clear hw1 hO1 hg1 hd1)
  have hcd := HC1.out.below (drew_below w1)
  obtain ⟨w2, hrun, hm2, hO2⟩ := hcd.map.store HT.out HX.out 3 0 y 0 S.tks (.agg #[.int .i64 3, .int .i64 0, .int .i64 (y : Int), .int .i64 0, .int .i64 (S.tks : Int)]) rfl
  have hco2 := hcd.mapped hO2 hm2
  obtain ⟨_, _, _, _, d4, d5, _⟩ := box7_ hcd.box
  have hSS : (fun W : World => W.cell? ⟨S.c, 5, none⟩ = some (.map (some S.m)) ∧ W.cell? ⟨S.c, 4, none⟩ = some (.int .i64 (S.tks : Int))) w1.drew := ⟨d5, d4⟩
  have HS2 : Hid ((fun W : World => W.cell? ⟨S.c, 5, none⟩ = some (.map (some S.m)) ∧ W.cell? ⟨S.c, 4, none⟩ = some (.int .i64 (S.tks : Int))) w2) := Lib.hid (by
    obtain ⟨_, _, _, _, e4, e5, _⟩ := box7_ hco2.box
    exact ⟨e5, e4⟩)
  have HSN := Lib.hid (send_no hco2 5 (x := x) (by decide) HY.out HOS.out 0 rfl)
  have HO2 := Lib.hid hO2
  clear hcd hco2 hO2 hm2 d4 d5
  refine wp_region_held_drew (S := (fun W : World => W.cell? ⟨S.c, 5, none⟩ = some (.map (some S.m)) ∧ W.cell? ⟨S.c, 4, none⟩ = some (.int .i64 (S.tks : Int)))) (by kernel_rfl) hSS (fun _ => ?_)
  refine wpAnyH_take (i := 0) (oi := ({ dst := Option.some 23, op := Go.Op.move (Go.Operand.tmp 0), type := 28, pos := "decision.go:37", after := #[], guard := Option.none } : Oper)) (v := ?v0x8) rfl (by kernel_rfl) (by kernel_rfl) (by kernel_rfl) (fun _ _ _ h => h) (Or.inl ⟨by rfl, ?hy0x8⟩) hSS ?rest0x8
  case hy0x8 =>
    intro W0 hSw
    obtain ⟨s0, s1⟩ := hSw
    go_simp
    first | done | with_reducible rfl
  try simp only [Act.put, List.setIfInBounds_toArray, List.set_cons_zero, List.set_cons_succ]
  refine wpAnyH_take (i := 1) (oi := ({ dst := Option.some 24, op := Go.Op.nilCheck (Go.Operand.tmp 23), type := 0, pos := "decision.go:37", after := #[{ on := 0, ground := Go.Ground.data }], guard := Option.none } : Oper)) (v := ?v1x9) rfl (by kernel_rfl) (by kernel_rfl) (by kernel_rfl) (fun _ _ _ h => h) (Or.inl ⟨by rfl, ?hy1x9⟩) hSS ?rest1x9
  case hy1x9 =>
    intro W0 hSw
    obtain ⟨s0, s1⟩ := hSw
    go_simp
    first | done | with_reducible rfl
  try simp only [Act.put, List.setIfInBounds_toArray, List.set_cons_zero, List.set_cons_succ]
  refine wpAnyH_take (i := 2) (oi := ({ dst := Option.some 25, op := Go.Op.fieldAddr 63 (Go.Operand.tmp 24) 5, type := 0, pos := "decision.go:37", after := #[{ on := 1, ground := Go.Ground.data }], guard := Option.none } : Oper)) (v := ?v2x10) rfl (by kernel_rfl) (by kernel_rfl) (by kernel_rfl) (fun _ _ _ h => h) (Or.inl ⟨by rfl, ?hy2x10⟩) hSS ?rest2x10
  case hy2x10 =>
    intro W0 hSw
    obtain ⟨s0, s1⟩ := hSw
    go_simp
    first | done | with_reducible rfl
  try simp only [Act.put, List.setIfInBounds_toArray, List.set_cons_zero, List.set_cons_succ]
  refine wpAnyH_take (i := 3) (oi := ({ dst := Option.some 26, op := Go.Op.load 61 (Go.Operand.tmp 25), type := 61, pos := "decision.go:37", after := #[{ on := 2, ground := Go.Ground.data }], guard := Option.none } : Oper)) (v := ?v3x11) rfl (by kernel_rfl) (by kernel_rfl) (by kernel_rfl) (fun _ _ _ h => h) (Or.inl ⟨by rfl, ?hy3x11⟩) hSS ?rest3x11
  case hy3x11 =>
    intro W0 hSw
    obtain ⟨s0, s1⟩ := hSw
    go_simp
    first | done | with_reducible rfl
  try simp only [Act.put, List.setIfInBounds_toArray, List.set_cons_zero, List.set_cons_succ]
  refine wpAnyH_take (i := 4) (oi := ({ dst := Option.some 27, op := Go.Op.move (Go.Operand.tmp 1), type := 3, pos := "decision.go:37", after := #[], guard := Option.none } : Oper)) (v := ?v4x12) rfl (by kernel_rfl) (by kernel_rfl) (by kernel_rfl) (fun _ _ _ h => h) (Or.inl ⟨by rfl, ?hy4x12⟩) hSS ?rest4x12
  case hy4x12 =>
    intro W0 hSw
    obtain ⟨s0, s1⟩ := hSw
    go_simp
    first | done | with_reducible rfl
  try simp only [Act.put, List.setIfInBounds_toArray, List.set_cons_zero, List.set_cons_succ]
  refine wpAnyH_take (i := 5) (oi := ({ dst := Option.some 28, op := Go.Op.move (Go.Operand.tmp 2), type := 65, pos := "decision.go:37", after := #[], guard := Option.none } : Oper)) (v := ?v5x13) rfl (by kernel_rfl) (by kernel_rfl) (by kernel_rfl) (fun _ _ _ h => h) (Or.inl ⟨by rfl, ?hy5x13⟩) hSS ?rest5x13
  case hy5x13 =>
    intro W0 hSw
    obtain ⟨s0, s1⟩ := hSw
    go_simp
    first | done | with_reducible rfl
  try simp only [Act.put, List.setIfInBounds_toArray, List.set_cons_zero, List.set_cons_succ]
  refine wpAnyH_take (i := 6) (oi := ({ dst := Option.some 29, op := Go.Op.move (Go.Operand.tmp 0), type := 28, pos := "decision.go:37", after := #[], guard := Option.none } : Oper)) (v := ?v6x14) rfl (by kernel_rfl) (by kernel_rfl) (by kernel_rfl) (fun _ _ _ h => h) (Or.inl ⟨by rfl, ?hy6x14⟩) hSS ?rest6x14
  case hy6x14 =>
    intro W0 hSw
    obtain ⟨s0, s1⟩ := hSw
    go_simp
    first | done | with_reducible rfl
  try simp only [Act.put, List.setIfInBounds_toArray, List.set_cons_zero, List.set_cons_succ]
  refine wpAnyH_take (i := 7) (oi := ({ dst := Option.some 30, op := Go.Op.nilCheck (Go.Operand.tmp 29), type := 0, pos := "decision.go:37", after := #[{ on := 6, ground := Go.Ground.data }], guard := Option.none } : Oper)) (v := ?v7x15) rfl (by kernel_rfl) (by kernel_rfl) (by kernel_rfl) (fun _ _ _ h => h) (Or.inl ⟨by rfl, ?hy7x15⟩) hSS ?rest7x15
  case hy7x15 =>
    intro W0 hSw
    obtain ⟨s0, s1⟩ := hSw
    go_simp
    first | done | with_reducible rfl
  try simp only [Act.put, List.setIfInBounds_toArray, List.set_cons_zero, List.set_cons_succ]
  refine wpAnyH_take (i := 8) (oi := ({ dst := Option.some 31, op := Go.Op.fieldAddr 63 (Go.Operand.tmp 30) 4, type := 0, pos := "decision.go:37", after := #[{ on := 7, ground := Go.Ground.data }], guard := Option.none } : Oper)) (v := ?v8x16) rfl (by kernel_rfl) (by kernel_rfl) (by kernel_rfl) (fun _ _ _ h => h) (Or.inl ⟨by rfl, ?hy8x16⟩) hSS ?rest8x16
  case hy8x16 =>
    intro W0 hSw
    obtain ⟨s0, s1⟩ := hSw
    go_simp
    first | done | with_reducible rfl
  try simp only [Act.put, List.setIfInBounds_toArray, List.set_cons_zero, List.set_cons_succ]
  refine wpAnyH_take (i := 9) (oi := ({ dst := Option.some 32, op := Go.Op.load 3 (Go.Operand.tmp 31), type := 3, pos := "decision.go:37", after := #[{ on := 8, ground := Go.Ground.data }], guard := Option.none } : Oper)) (v := ?v9x17) rfl (by kernel_rfl) (by kernel_rfl) (by kernel_rfl) (fun _ _ _ h => h) (Or.inl ⟨by rfl, ?hy9x17⟩) hSS ?rest9x17
  case hy9x17 =>
    intro W0 hSw
    obtain ⟨s0, s1⟩ := hSw
    go_simp
    first | done | with_reducible rfl
  try simp only [Act.put, List.setIfInBounds_toArray, List.set_cons_zero, List.set_cons_succ]
  refine wpAnyH_take (i := 10) (oi := ({ dst := Option.some 33, op := Go.Op.build 67 #[(0, Go.Operand.const (Go.Value.int Go.IntKind.i64 3)), (2, Go.Operand.tmp 28), (4, Go.Operand.tmp 32)], type := 67, pos := "decision.go:37", after := #[{ on := 5, ground := Go.Ground.data }, { on := 9, ground := Go.Ground.data }], guard := Option.none } : Oper)) (v := ?v10x18) rfl (by kernel_rfl) (by kernel_rfl) (by kernel_rfl) (fun _ _ _ h => h) (Or.inl ⟨by rfl, ?hy10x18⟩) hSS ?rest10x18
  case hy10x18 =>
    intro W0 hSw
    obtain ⟨s0, s1⟩ := hSw
    go_simp
    first | done | with_reducible rfl
  try simp only [Act.put, List.setIfInBounds_toArray, List.set_cons_zero, List.set_cons_succ]
  refine wpAnyH_ready (rs := [11]) (by kernel_rfl) (by simp) ?_
  refine AllReadyH.cons (o := ({ dst := Option.none, op := Go.Op.mapUpdate 61 (Go.Operand.tmp 26) (Go.Operand.tmp 27) (Go.Operand.tmp 33), type := 0, pos := "decision.go:37", after := #[{ on := 3, ground := Go.Ground.data }, { on := 4, ground := Go.Ground.data }, { on := 10, ground := Go.Ground.data }, { on := 0, ground := Go.Ground.phase }, { on := 1, ground := Go.Ground.phase }, { on := 2, ground := Go.Ground.phase }, { on := 3, ground := Go.Ground.phase }, { on := 4, ground := Go.Ground.phase }, { on := 5, ground := Go.Ground.phase }, { on := 6, ground := Go.Ground.phase }, { on := 7, ground := Go.Ground.phase }, { on := 8, ground := Go.Ground.phase }, { on := 9, ground := Go.Ground.phase }, { on := 10, ground := Go.Ground.phase }], guard := Option.none } : Oper)) rfl (fun K0 hK0 => ?_) AllReadyH.nil
  go_simp
  refine hK0.out _ _ HS2.out (fun _ => ?_)
  clear hK0 K0
  try simp only [Act.put, List.setIfInBounds_toArray, List.set_cons_zero, List.set_cons_succ]
  refine wpAnyH_done (by kernel_rfl) ?_ _
  go_wp2_with (go_at_call 27; refine HSN.out.mono ?_; rintro e1 w3 hsn
               have he1 := hsn.1
               subst he1
               have HE : Hid (CmT w B S x y w3) := Lib.hid (by
                 obtain ⟨_, v, os1, h1, h2, h3, h4⟩ := hsn
                 refine ⟨v, os1, g', d', h1, h2, ?_, fun j hj => ?_, ?_, ?_⟩
                 · refine ((((Only.of_below HB0.out).trans HO1.out fun j _ hj => ?_).trans (Only.of_below (K := fun _ => False) (drew_below w1)) fun _ _ h => False.elim h).trans HO2.out fun j _ hj => .inr (.inl hj)).trans h3 fun j hj hk => ?_
                   · unfold CoK; rcases hj with hj | hj | hj | hj <;> simp [hj]
                   · rcases hk with hk | hk
                     · exact .inl hk
                     · exact .inr (.inr (.inr (.inr (.inr (.inr hk)))))
                 · rcases h4 j hj with h5 | h5
                   · exact .inl h5
                   · exact .inr (Nat.le_trans HB0.out.size (Nat.le_trans HO1.out.size (Nat.le_trans HO2.out.size h5)))
                 · exact HG1.out.1.imp id fun h => Nat.le_trans HB0.out.size h
                 · exact HG1.out.2.imp id fun h => Nat.le_trans HB0.out.size h)
               clear hsn)
  go_ret
  exact ⟨rfl, HE.out⟩
set_option maxRecDepth 100000 in
set_option maxHeartbeats 16000000 in
theorem vote_yesl {w : World} {B : Nat} {S : CoS} (h : Co w B S) (t : Int) {f x : Nat} (hf16 : f < 16) (hx : i64ok (x : Int)) {a o : Nat} (ho : o < 65536) (y s : Nat) (hy : y < 65536) (hof : o.testBit f = true) (hw0 : woB o f = 0) (hT : S.T.length < 1000) (hos : S.os.length ≤ 50000) (hroom : S.b + (bytesOf S.rs).length + 905 ≤ 100000) :
    Calls Try.prog 29 #[.pointer (some ⟨S.c, 0, none⟩), .agg #[.int .i64 2, .int .i64 (f : Int), .int .i64 t, .int .i64 (x : Int), .slice none 0 0], .agg #[.int .i64 2, .int .i64 (a : Int), .int .i64 (o : Int), .int .i64 (y : Int), .int .i64 (s : Int)]] w (fun e w' => e = .returned (.int .i64 0) ∧ CmT w B S x (y ||| 2 ^ f) w') := by
  have HH := Lib.hid (fun W => has_any (n := f) ho hf16 W)
  rw [hof] at HH
  have HWP := Lib.hid (fun W => without_any (n := f) ho hf16 W)
  rw [hw0] at HWP
  have hylt := or_lt16 hy hf16
  have hyn : y ||| 2 ^ f ≠ 0 := or_ne
  obtain ⟨yy, hyy⟩ : ∃ yy, yy = y ||| 2 ^ f := ⟨_, rfl⟩
  have HWI := Lib.hid (fun W => with_any (n := f) hy hf16 W)
  rw [← hyy] at HWI hylt hyn ⊢
  obtain ⟨X, hX⟩ : ∃ X : Int, X = (x : Int) := ⟨_, rfl⟩
  have HCM : Hid (∀ W, Below w.heap.size w W → Calls Try.prog 49 #[.pointer (some ⟨S.c, 0, none⟩), .int .i64 X, .int .i64 (yy : Int)] W (fun e w' => e = .returned (.int .i64 0) ∧ CmT w B S x yy w')) := Lib.hid fun W hb => by
    rw [hX]
    exact (commit_yes (h.below hb) hx hylt hyn hT hos hroom).mono fun e w1 hl => ⟨hl.1, hl.2.pre hb⟩
  rw [← hX]
  obtain ⟨L5, hL5⟩ : ∃ L5, L5 = Obj.cells #[.int .i64 2, .int .i64 (f : Int), .int .i64 t, .int .i64 X, .slice none 0 0] 46 := ⟨_, rfl⟩
  obtain ⟨T5, hT5⟩ : ∃ T5, T5 = Obj.cells #[.int .i64 2, .int .i64 (a : Int), .int .i64 (o : Int), .int .i64 (y : Int), .int .i64 (s : Int)] 67 := ⟨_, rfl⟩
  have hl5 : ((w.alloc L5).alloc T5).heap[w.heap.size]? = some L5 := ((alloc_below (w.alloc L5) T5).block _ (by simp)).trans (heap_alloc_new w L5)
  have ht5 := heap_alloc_new (w.alloc L5) T5
  rw [show (w.alloc L5).heap.size = w.heap.size + 1 by simp] at ht5
  rw [hT5] at ht5
  have f2 := frozen_of ht5 2
  have f3 := frozen_of ht5 3
  rw [hL5] at ht5 f2 f3
  obtain ⟨_, _, z2, z3, _⟩ := box5 ht5
  have HB0 : Hid (Below w.heap.size w ((w.alloc (.cells #[.int .i64 2, .int .i64 (f : Int), .int .i64 t, .int .i64 X, .slice none 0 0] 46)).alloc (.cells #[.int .i64 2, .int .i64 (a : Int), .int .i64 ((0 : Nat) : Int), .int .i64 (yy : Int), .int .i64 (s : Int)] 67))) := Lib.hid (alloc2_below _ _ _)
  clear h hf16 hx ho hy hof hw0 hX hT hos hroom hylt hyn hyy hL5 hT5 hl5 ht5
  go_enter Try.func29, Try.ntmps29
  go_wp2_with (first
    | (go_at_call 47; refine (HH.out _).mono ?_; rintro e1 w1 ⟨rfl, rfl⟩)
    | (go_at_call 48; refine (HWP.out _).mono ?_; rintro e1 w1 ⟨rfl, rfl⟩)
    | (go_at_call 45; refine (HWI.out _).mono ?_; rintro e1 w1 ⟨rfl, rfl⟩)
    | (go_at_call 49; refine (HCM.out _ (by exact HB0.out)).mono ?_; rintro e1 w1 ⟨rfl, hl⟩
       have HE := Lib.hid hl
       clear hl))
  go_ret
  exact ⟨rfl, HE.out⟩
end

section
open Go.RowKit
set_option maxRecDepth 100000 in
set_option maxHeartbeats 16000000 in
theorem hear_yem {w : World} {B : Nat} {S : CoS} (h : Co w B S) {f x : Nat} (hf16 : f < 16) (hx : x < 1099511627776) (hxn : x % 16 = S.node) {e : Te} (he : findT S.T x = some e) (hes : e.s = 2) (ho : e.o < 65536) (hy6 : e.y < 65536) (hof : e.o.testBit f = true) (hw0 : woB e.o f ≠ 0) (hT : S.T.length < 1000) :
    Calls Try.prog 14 #[.pointer (some ⟨S.c, 0, none⟩), .agg #[.int .i64 2, .int .i64 (f : Int), .int .i64 (S.node : Int), .int .i64 (x : Int), .slice none 0 0]] w (fun e1 w' => e1 = .returned (.int .i64 0) ∧ LtT w B S (putT S.T ⟨x, 2, e.a, woB e.o f, e.y ||| 2 ^ f, e.t⟩) [] w') := by
  have hxi : i64ok (x : Int) := by unfold i64ok; omega
  obtain ⟨k, hk⟩ : ∃ k : Int, k = 2 := ⟨_, rfl⟩
  have HRT := Lib.hid (fun W => rightL_any k (f : Int) (S.node : Int) (x : Int) [] none 0 0 rfl (by omega) W (RdI.nil _ _ _))
  rw [right_of (by omega) hf16 h.nod (by omega)] at HRT
  obtain ⟨X, hX⟩ : ∃ X : Int, X = (x : Int) := ⟨_, rfl⟩
  have hX16 : X % 16 = (S.node : Int) := by omega
  have hX17 : X.tmod 16 = (S.node : Int) := by rw [Int.tmod_eq_emod_of_nonneg (by omega)]; exact hX16
  have hX0 : 0 ≤ X := by omega
  have hnn : ((S.node : Int) != (S.node : Int)) = false := by simp
  obtain ⟨gl, hgl⟩ : ∃ gl, gl = w.heap.size := ⟨_, rfl⟩
  obtain ⟨L5, hL5⟩ : ∃ L5, L5 = Obj.cells #[.int .i64 k, .int .i64 (f : Int), .int .i64 (S.node : Int), .int .i64 X, .slice none 0 0] 46 := ⟨_, rfl⟩
  have hb0 := alloc_below w L5
  have hl5 := heap_alloc_new w L5
  obtain ⟨W0, hW0⟩ : ∃ W0, W0 = w.alloc L5 := ⟨_, rfl⟩
  rw [← hW0] at hb0 hl5
  rw [← hgl, hL5] at hl5
  have hc0 := h.below hb0
  have HB0 := Lib.hid hb0
  have HS3 : Hid (∀ W, Below W0.heap.size W0 W → (fun W : World => W.cell? ⟨gl, 0, none⟩ = some (.int .i64 k) ∧ W.cell? ⟨gl, 1, none⟩ = some (.int .i64 (f : Int)) ∧ W.cell? ⟨gl, 2, none⟩ = some (.int .i64 (S.node : Int)) ∧ W.cell? ⟨gl, 3, none⟩ = some (.int .i64 X) ∧ W.cell? ⟨gl, 4, none⟩ = some (.slice none 0 0) ∧ W.cell? ⟨S.c, 0, none⟩ = some (.int .i64 (S.node : Int))) W) := Lib.hid fun W hb => by
    obtain ⟨l0, l1, l2, l3, l4⟩ := box5 ((hb.block gl (lt_of_heap hl5)).trans hl5)
    obtain ⟨d0, _⟩ := box7_ (hc0.below hb).box
    exact ⟨l0, l1, l2, l3, l4, d0⟩
  obtain ⟨n, s0, a, o, y0, t0⟩ := e
  simp only at hes ho hy6 hof hw0 ⊢
  subst hes
  obtain ⟨y, hy⟩ : ∃ y : Int, y = (y0 : Int) := ⟨_, rfl⟩
  obtain ⟨s, hs⟩ : ∃ s : Int, s = (t0 : Int) := ⟨_, rfl⟩
  have HLK : Hid (∀ W, Below W0.heap.size W0 W → (Instr.lookup 61 (.map (some S.m)) (.int .i64 X) false).run Try.prog W = .ok (.agg #[.int .i64 2, .int .i64 (a : Int), .int .i64 (o : Int), .int .i64 y, .int .i64 s]) W) := Lib.hid fun W hb => by
    have h1 := (hc0.below hb).map.look hxi
    unfold stT at h1
    rw [hX]
    simp only [he, Te.v, teV] at h1
    rw [hy, hs]
    exact h1
  have HVN : Hid (∀ W, Below W0.heap.size W0 W → ∀ kk : Int, kk = 2 → Calls Try.prog 29 #[.pointer (some ⟨S.c, 0, none⟩), .agg #[.int .i64 kk, .int .i64 (f : Int), .int .i64 (S.node : Int), .int .i64 (x : Int), .slice none 0 0], .agg #[.int .i64 2, .int .i64 (a : Int), .int .i64 (o : Int), .int .i64 y, .int .i64 s]] W (fun e1 w1 => e1 = .returned (.int .i64 0) ∧ LtT W B S (putT S.T ⟨x, 2, a, woB o f, y0 ||| 2 ^ f, t0⟩) [] w1)) := Lib.hid fun W hb kk hkk => by
    rw [hkk]
    rw [hy, hs]
    exact vote_yes (hc0.below hb) (S.node : Int) hf16 hxi ho y0 t0 hy6 hof hw0 hT
  clear he hy hs ho hy6 hof hw0 hT
  rw [← hX] at HRT
  rw [← hX, ← hk]
  have HC := Lib.hid (closed_any hc0)
  rw [hW0, hL5] at HC
  have HW0 := Lib.hid hW0
  rw [hL5] at HW0
  have HGL := Lib.hid hgl
  have HXX := Lib.hid hX
  have HCW : Hid (∀ W, Below W0.heap.size W0 W → Co W B S) := Lib.hid fun W hb => hc0.below hb
  have HL5 : Hid (∀ W, Below W0.heap.size W0 W → W.heap[gl]? = some (.cells #[.int .i64 k, .int .i64 (f : Int), .int .i64 (S.node : Int), .int .i64 X, .slice none 0 0] 46 (0, 0))) := Lib.hid fun W hb => (hb.block gl (lt_of_heap hl5)).trans hl5
  obtain ⟨_, _, _, _, _, c5, _⟩ := box7_ hc0.box
  have HKK := Lib.hid hk
  clear h hk hf16 hx hxn hxi hX hb0 hl5 hc0 hW0 hL5 hgl hX16
  go_enter Try.func14, Try.ntmps14
  go_upto_region 3 with (go_at_call 24; refine HC.out.mono ?_; rintro e1 w1 ⟨rfl, rfl⟩)
  rw [← HW0.out]
  have hSS := HS3.out _ (drew_below W0)
  rw [← HGL.out]
  refine wp_region_held_drew (S := (fun W : World => W.cell? ⟨gl, 0, none⟩ = some (.int .i64 k) ∧ W.cell? ⟨gl, 1, none⟩ = some (.int .i64 (f : Int)) ∧ W.cell? ⟨gl, 2, none⟩ = some (.int .i64 (S.node : Int)) ∧ W.cell? ⟨gl, 3, none⟩ = some (.int .i64 X) ∧ W.cell? ⟨gl, 4, none⟩ = some (.slice none 0 0) ∧ W.cell? ⟨S.c, 0, none⟩ = some (.int .i64 (S.node : Int)))) (by kernel_rfl) hSS (fun _ => ?_)
  refine wpAnyH_take (i := 0) (oi := ({ dst := Option.some 10, op := Go.Op.load 46 (Go.Operand.tmp 3), type := 46, pos := "coordinator.go:83", after := #[], guard := Option.none } : Oper)) (v := ?v0x8) rfl (by kernel_rfl) (by kernel_rfl) (by kernel_rfl) (fun _ _ _ h => h) (Or.inl ⟨by rfl, ?hy0x8⟩) hSS ?rest0x8
  case hy0x8 =>
    intro W0 hSw
    obtain ⟨s0, s1, s2, s3, s4, s5⟩ := hSw
    go_simp
    first | done | with_reducible rfl
  try simp only [Act.put, List.setIfInBounds_toArray, List.set_cons_zero, List.set_cons_succ]
  refine wpAnyH_ready (rs := [1]) (by kernel_rfl) (by simp) ?_
  refine AllReadyH.cons (o := ({ dst := Option.some 11, op := Go.Op.call { callee := Go.Callee.value (Go.Operand.func 25), args := #[Go.Operand.tmp 10], argTypes := #[46] }, type := 4, pos := "coordinator.go:83", after := #[{ on := 0, ground := Go.Ground.data }], guard := Option.none } : Oper)) rfl (fun K0 hK0 => ?_) AllReadyH.nil
  go_simp
  go_at_call 25
  refine (HRT.out _).mono ?_
  rintro e1 w1 ⟨rfl, hb1⟩
  have HB1 := Lib.hid ((drew_below W0).trans (Below.mono hb1 (Nat.le_refl _)))
  have hSS := HS3.out _ HB1.out
  clear hb1
  try go_wp2_with fail
  refine hK0.out _ _ hSS (fun _ => ?_)
  clear hK0 K0
  try simp only [Act.put, List.setIfInBounds_toArray, List.set_cons_zero, List.set_cons_succ]
  refine wpAnyH_take (i := 2) (oi := ({ dst := Option.some 12, op := Go.Op.unOp Go.UnOp.not 4 (Go.Operand.tmp 11), type := 4, pos := "coordinator.go:83", after := #[{ on := 1, ground := Go.Ground.data }], guard := Option.none } : Oper)) (v := ?v2x9) rfl (by kernel_rfl) (by kernel_rfl) (by kernel_rfl) (fun _ _ _ h => h) (Or.inl ⟨by rfl, ?hy2x9⟩) hSS ?rest2x9
  case hy2x9 =>
    intro W0 hSw
    obtain ⟨s0, s1, s2, s3, s4, s5⟩ := hSw
    go_simp
    first | done | with_reducible rfl
  try simp only [Act.put, List.setIfInBounds_toArray, List.set_cons_zero, List.set_cons_succ]
  refine wpAnyH_take (i := 3) (oi := ({ dst := Option.some 13, op := Go.Op.move (Go.Operand.tmp 12), type := 4, pos := "coordinator.go:83", after := #[{ on := 2, ground := Go.Ground.data }, { on := 1, ground := Go.Ground.chain }], guard := Option.none } : Oper)) (v := ?v3x10) rfl (by kernel_rfl) (by kernel_rfl) (by kernel_rfl) (fun _ _ _ h => h) (Or.inl ⟨by rfl, ?hy3x10⟩) hSS ?rest3x10
  case hy3x10 =>
    intro W0 hSw
    obtain ⟨s0, s1, s2, s3, s4, s5⟩ := hSw
    go_simp
    first | done | with_reducible rfl
  try simp only [Act.put, List.setIfInBounds_toArray, List.set_cons_zero, List.set_cons_succ]
  refine wpAnyH_take (i := 4) (oi := ({ dst := Option.some 14, op := Go.Op.fieldAddr 46 (Go.Operand.tmp 3) 2, type := 0, pos := "coordinator.go:83", after := #[{ on := 3, ground := Go.Ground.guard }], guard := Option.some (3, Bool.false) } : Oper)) (v := ?v4x11) rfl (by kernel_rfl) (by kernel_rfl) (by kernel_rfl) (fun _ _ _ h => h) (Or.inl ⟨by rfl, ?hy4x11⟩) hSS ?rest4x11
  case hy4x11 =>
    intro W0 hSw
    obtain ⟨s0, s1, s2, s3, s4, s5⟩ := hSw
    go_simp
    first | done | with_reducible rfl
  try simp only [Act.put, List.setIfInBounds_toArray, List.set_cons_zero, List.set_cons_succ]
  refine wpAnyH_take (i := 5) (oi := ({ dst := Option.some 15, op := Go.Op.load 3 (Go.Operand.tmp 14), type := 3, pos := "coordinator.go:83", after := #[{ on := 4, ground := Go.Ground.data }, { on := 3, ground := Go.Ground.guard }], guard := Option.some (3, Bool.false) } : Oper)) (v := ?v5x12) rfl (by kernel_rfl) (by kernel_rfl) (by kernel_rfl) (fun _ _ _ h => h) (Or.inl ⟨by rfl, ?hy5x12⟩) hSS ?rest5x12
  case hy5x12 =>
    intro W0 hSw
    obtain ⟨s0, s1, s2, s3, s4, s5⟩ := hSw
    go_simp
    first | done | with_reducible rfl
  try simp only [Act.put, List.setIfInBounds_toArray, List.set_cons_zero, List.set_cons_succ]
  refine wpAnyH_take (i := 6) (oi := ({ dst := Option.some 16, op := Go.Op.move (Go.Operand.tmp 0), type := 28, pos := "coordinator.go:83", after := #[{ on := 3, ground := Go.Ground.guard }], guard := Option.some (3, Bool.false) } : Oper)) (v := ?v6x13) rfl (by kernel_rfl) (by kernel_rfl) (by kernel_rfl) (fun _ _ _ h => h) (Or.inl ⟨by rfl, ?hy6x13⟩) hSS ?rest6x13
  case hy6x13 =>
    intro W0 hSw
    obtain ⟨s0, s1, s2, s3, s4, s5⟩ := hSw
    go_simp
    first | done | with_reducible rfl
  try simp only [Act.put, List.setIfInBounds_toArray, List.set_cons_zero, List.set_cons_succ]
  refine wpAnyH_take (i := 7) (oi := ({ dst := Option.some 17, op := Go.Op.nilCheck (Go.Operand.tmp 16), type := 0, pos := "coordinator.go:83", after := #[{ on := 6, ground := Go.Ground.data }, { on := 3, ground := Go.Ground.guard }], guard := Option.some (3, Bool.false) } : Oper)) (v := ?v7x14) rfl (by kernel_rfl) (by kernel_rfl) (by kernel_rfl) (fun _ _ _ h => h) (Or.inl ⟨by rfl, ?hy7x14⟩) hSS ?rest7x14
  case hy7x14 =>
    intro W0 hSw
    obtain ⟨s0, s1, s2, s3, s4, s5⟩ := hSw
    go_simp
    first | done | with_reducible rfl
  try simp only [Act.put, List.setIfInBounds_toArray, List.set_cons_zero, List.set_cons_succ]
  refine wpAnyH_take (i := 8) (oi := ({ dst := Option.some 18, op := Go.Op.fieldAddr 63 (Go.Operand.tmp 17) 0, type := 0, pos := "coordinator.go:83", after := #[{ on := 7, ground := Go.Ground.data }, { on := 3, ground := Go.Ground.guard }], guard := Option.some (3, Bool.false) } : Oper)) (v := ?v8x15) rfl (by kernel_rfl) (by kernel_rfl) (by kernel_rfl) (fun _ _ _ h => h) (Or.inl ⟨by rfl, ?hy8x15⟩) hSS ?rest8x15
  case hy8x15 =>
    intro W0 hSw
    obtain ⟨s0, s1, s2, s3, s4, s5⟩ := hSw
    go_simp
    first | done | with_reducible rfl
  try simp only [Act.put, List.setIfInBounds_toArray, List.set_cons_zero, List.set_cons_succ]
  refine wpAnyH_take (i := 9) (oi := ({ dst := Option.some 19, op := Go.Op.load 3 (Go.Operand.tmp 18), type := 3, pos := "coordinator.go:83", after := #[{ on := 8, ground := Go.Ground.data }, { on := 3, ground := Go.Ground.guard }], guard := Option.some (3, Bool.false) } : Oper)) (v := ?v9x16) rfl (by kernel_rfl) (by kernel_rfl) (by kernel_rfl) (fun _ _ _ h => h) (Or.inl ⟨by rfl, ?hy9x16⟩) hSS ?rest9x16
  case hy9x16 =>
    intro W0 hSw
    obtain ⟨s0, s1, s2, s3, s4, s5⟩ := hSw
    go_simp
    first | done | with_reducible rfl
  try simp only [Act.put, List.setIfInBounds_toArray, List.set_cons_zero, List.set_cons_succ]
  refine wpAnyH_take (i := 10) (oi := ({ dst := Option.some 20, op := Go.Op.binOp Go.BinOp.neq 3 (Go.Operand.tmp 15) (Go.Operand.tmp 19) 3, type := 4, pos := "coordinator.go:83", after := #[{ on := 5, ground := Go.Ground.data }, { on := 9, ground := Go.Ground.data }, { on := 3, ground := Go.Ground.guard }], guard := Option.some (3, Bool.false) } : Oper)) (v := ?v10x17) rfl (by kernel_rfl) (by kernel_rfl) (by kernel_rfl) (fun _ _ _ h => h) (Or.inl ⟨by rfl, ?hy10x17⟩) hSS ?rest10x17
  case hy10x17 =>
    intro W0 hSw
    obtain ⟨s0, s1, s2, s3, s4, s5⟩ := hSw
    go_simp
    first | done | with_reducible rfl
  try simp only [Act.put, List.setIfInBounds_toArray, List.set_cons_zero, List.set_cons_succ]
  refine wpAnyH_take (i := 11) (oi := ({ dst := Option.some 21, op := Go.Op.pick (Go.Operand.tmp 13) (Go.Operand.const (Go.Value.bool Bool.true)) (Go.Operand.tmp 20), type := 4, pos := "coordinator.go:83", after := #[{ on := 3, ground := Go.Ground.data }, { on := 10, ground := Go.Ground.data }], guard := Option.none } : Oper)) (v := ?v11x18) rfl (by kernel_rfl) (by kernel_rfl) (by kernel_rfl) (fun _ _ _ h => h) (Or.inl ⟨by rfl, ?hy11x18⟩) hSS ?rest11x18
  case hy11x18 =>
    intro W0 hSw
    obtain ⟨s0, s1, s2, s3, s4, s5⟩ := hSw
    go_simp
    first | done | with_reducible rfl
  try simp only [Act.put, List.setIfInBounds_toArray, List.set_cons_zero, List.set_cons_succ]
  refine wpAnyH_take (i := 12) (oi := ({ dst := Option.some 22, op := Go.Op.move (Go.Operand.tmp 21), type := 4, pos := "coordinator.go:83", after := #[{ on := 11, ground := Go.Ground.data }, { on := 3, ground := Go.Ground.chain }], guard := Option.none } : Oper)) (v := ?v12x19) rfl (by kernel_rfl) (by kernel_rfl) (by kernel_rfl) (fun _ _ _ h => h) (Or.inl ⟨by rfl, ?hy12x19⟩) hSS ?rest12x19
  case hy12x19 =>
    intro W0 hSw
    obtain ⟨s0, s1, s2, s3, s4, s5⟩ := hSw
    go_simp
    first | done | with_reducible rfl
  try simp only [Act.put, List.setIfInBounds_toArray, List.set_cons_zero, List.set_cons_succ]
  refine wpAnyH_take (i := 13) (oi := ({ dst := Option.some 23, op := Go.Op.fieldAddr 46 (Go.Operand.tmp 3) 3, type := 0, pos := "coordinator.go:83", after := #[{ on := 12, ground := Go.Ground.guard }], guard := Option.some (12, Bool.false) } : Oper)) (v := ?v13x20) rfl (by kernel_rfl) (by kernel_rfl) (by kernel_rfl) (fun _ _ _ h => h) (Or.inl ⟨by rfl, ?hy13x20⟩) hSS ?rest13x20
  case hy13x20 =>
    intro W0 hSw
    obtain ⟨s0, s1, s2, s3, s4, s5⟩ := hSw
    go_simp
    first | done | with_reducible rfl
  try simp only [Act.put, List.setIfInBounds_toArray, List.set_cons_zero, List.set_cons_succ]
  refine wpAnyH_take (i := 14) (oi := ({ dst := Option.some 24, op := Go.Op.load 3 (Go.Operand.tmp 23), type := 3, pos := "coordinator.go:83", after := #[{ on := 13, ground := Go.Ground.data }, { on := 12, ground := Go.Ground.guard }], guard := Option.some (12, Bool.false) } : Oper)) (v := ?v14x21) rfl (by kernel_rfl) (by kernel_rfl) (by kernel_rfl) (fun _ _ _ h => h) (Or.inl ⟨by rfl, ?hy14x21⟩) hSS ?rest14x21
  case hy14x21 =>
    intro W0 hSw
    obtain ⟨s0, s1, s2, s3, s4, s5⟩ := hSw
    go_simp
    first | done | with_reducible rfl
  try simp only [Act.put, List.setIfInBounds_toArray, List.set_cons_zero, List.set_cons_succ]
  refine wpAnyH_take (i := 15) (oi := ({ dst := Option.some 25, op := Go.Op.binOp Go.BinOp.rem 3 (Go.Operand.tmp 24) (Go.Operand.const (Go.Value.int Go.IntKind.i64 16)) 3, type := 3, pos := "coordinator.go:83", after := #[{ on := 14, ground := Go.Ground.data }, { on := 12, ground := Go.Ground.guard }], guard := Option.some (12, Bool.false) } : Oper)) (v := ?v15x22) rfl (by kernel_rfl) (by kernel_rfl) (by kernel_rfl) (fun _ _ _ h => h) (Or.inl ⟨by rfl, ?hy15x22⟩) hSS ?rest15x22
  case hy15x22 =>
    intro W0 hSw
    obtain ⟨s0, s1, s2, s3, s4, s5⟩ := hSw
    go_simp
    first | done | with_reducible rfl
  try simp only [Act.put, List.setIfInBounds_toArray, List.set_cons_zero, List.set_cons_succ]
  refine wpAnyH_take (i := 16) (oi := ({ dst := Option.some 26, op := Go.Op.move (Go.Operand.tmp 0), type := 28, pos := "coordinator.go:83", after := #[{ on := 12, ground := Go.Ground.guard }], guard := Option.some (12, Bool.false) } : Oper)) (v := ?v16x23) rfl (by kernel_rfl) (by kernel_rfl) (by kernel_rfl) (fun _ _ _ h => h) (Or.inl ⟨by rfl, ?hy16x23⟩) hSS ?rest16x23
  case hy16x23 =>
    intro W0 hSw
    obtain ⟨s0, s1, s2, s3, s4, s5⟩ := hSw
    go_simp
    first | done | with_reducible rfl
  try simp only [Act.put, List.setIfInBounds_toArray, List.set_cons_zero, List.set_cons_succ]
  refine wpAnyH_take (i := 17) (oi := ({ dst := Option.some 27, op := Go.Op.nilCheck (Go.Operand.tmp 26), type := 0, pos := "coordinator.go:83", after := #[{ on := 16, ground := Go.Ground.data }, { on := 12, ground := Go.Ground.guard }], guard := Option.some (12, Bool.false) } : Oper)) (v := ?v17x24) rfl (by kernel_rfl) (by kernel_rfl) (by kernel_rfl) (fun _ _ _ h => h) (Or.inl ⟨by rfl, ?hy17x24⟩) hSS ?rest17x24
  case hy17x24 =>
    intro W0 hSw
    obtain ⟨s0, s1, s2, s3, s4, s5⟩ := hSw
    go_simp
    first | done | with_reducible rfl
  try simp only [Act.put, List.setIfInBounds_toArray, List.set_cons_zero, List.set_cons_succ]
  refine wpAnyH_take (i := 18) (oi := ({ dst := Option.some 28, op := Go.Op.fieldAddr 63 (Go.Operand.tmp 27) 0, type := 0, pos := "coordinator.go:83", after := #[{ on := 17, ground := Go.Ground.data }, { on := 12, ground := Go.Ground.guard }], guard := Option.some (12, Bool.false) } : Oper)) (v := ?v18x25) rfl (by kernel_rfl) (by kernel_rfl) (by kernel_rfl) (fun _ _ _ h => h) (Or.inl ⟨by rfl, ?hy18x25⟩) hSS ?rest18x25
  case hy18x25 =>
    intro W0 hSw
    obtain ⟨s0, s1, s2, s3, s4, s5⟩ := hSw
    go_simp
    first | done | with_reducible rfl
  try simp only [Act.put, List.setIfInBounds_toArray, List.set_cons_zero, List.set_cons_succ]
  refine wpAnyH_take (i := 19) (oi := ({ dst := Option.some 29, op := Go.Op.load 3 (Go.Operand.tmp 28), type := 3, pos := "coordinator.go:83", after := #[{ on := 18, ground := Go.Ground.data }, { on := 12, ground := Go.Ground.guard }], guard := Option.some (12, Bool.false) } : Oper)) (v := ?v19x26) rfl (by kernel_rfl) (by kernel_rfl) (by kernel_rfl) (fun _ _ _ h => h) (Or.inl ⟨by rfl, ?hy19x26⟩) hSS ?rest19x26
  case hy19x26 =>
    intro W0 hSw
    obtain ⟨s0, s1, s2, s3, s4, s5⟩ := hSw
    go_simp
    first | done | with_reducible rfl
  try simp only [Act.put, List.setIfInBounds_toArray, List.set_cons_zero, List.set_cons_succ]
  refine wpAnyH_take (i := 20) (oi := ({ dst := Option.some 30, op := Go.Op.binOp Go.BinOp.neq 3 (Go.Operand.tmp 25) (Go.Operand.tmp 29) 3, type := 4, pos := "coordinator.go:83", after := #[{ on := 15, ground := Go.Ground.data }, { on := 19, ground := Go.Ground.data }, { on := 12, ground := Go.Ground.guard }], guard := Option.some (12, Bool.false) } : Oper)) (v := ?v20x27) rfl (by kernel_rfl) (by kernel_rfl) (by kernel_rfl) (fun _ _ _ h => h) (Or.inl ⟨by rfl, ?hy20x27⟩) hSS ?rest20x27
  case hy20x27 =>
    intro W0 hSw
    obtain ⟨s0, s1, s2, s3, s4, s5⟩ := hSw
    go_simp
    first | done | with_reducible rfl
  try simp only [Act.put, List.setIfInBounds_toArray, List.set_cons_zero, List.set_cons_succ]
  refine wpAnyH_take (i := 21) (oi := ({ dst := Option.some 31, op := Go.Op.pick (Go.Operand.tmp 22) (Go.Operand.const (Go.Value.bool Bool.true)) (Go.Operand.tmp 30), type := 4, pos := "coordinator.go:83", after := #[{ on := 12, ground := Go.Ground.data }, { on := 20, ground := Go.Ground.data }], guard := Option.none } : Oper)) (v := ?v21x28) rfl (by kernel_rfl) (by kernel_rfl) (by kernel_rfl) (fun _ _ _ h => h) (Or.inl ⟨by rfl, ?hy21x28⟩) hSS ?rest21x28
  case hy21x28 =>
    intro W0 hSw
    obtain ⟨s0, s1, s2, s3, s4, s5⟩ := hSw
    go_simp
    first | done | with_reducible rfl
  try simp only [Act.put, List.setIfInBounds_toArray, List.set_cons_zero, List.set_cons_succ]
  refine wpAnyH_take (i := 22) (oi := ({ dst := Option.some 9, op := Go.Op.assign (Go.Operand.tmp 31), type := 4, pos := "coordinator.go:83", after := #[{ on := 21, ground := Go.Ground.data }, { on := 12, ground := Go.Ground.chain }], guard := Option.none } : Oper)) (v := ?v22x29) rfl (by kernel_rfl) (by kernel_rfl) (by kernel_rfl) (fun _ _ _ h => h) (Or.inl ⟨by rfl, ?hy22x29⟩) hSS ?rest22x29
  case hy22x29 =>
    intro W0 hSw
    obtain ⟨s0, s1, s2, s3, s4, s5⟩ := hSw
    go_simp
    first | done | with_reducible rfl
  try simp only [Act.put, List.setIfInBounds_toArray, List.set_cons_zero, List.set_cons_succ]
  refine wpAnyH_done (by kernel_rfl) ?_ _
  go_upto_region 5 with fail
  have e2 : (k == 2) = true := by rw [HKK.out]; rfl
  have e3 : (k == 3) = false := by rw [HKK.out]; rfl
  have e4 : (k == 4) = false := by rw [HKK.out]; rfl
  have e7 : (k == 7) = false := by rw [HKK.out]; rfl
  have e8 : (k == 8) = false := by rw [HKK.out]; rfl
  have HS5 : Hid (∀ W, Below W0.heap.size W0 W → (fun W : World => W.cell? ⟨S.c, 5, none⟩ = some (.map (some S.m)) ∧ W.cell? ⟨gl, 3, none⟩ = some (.int .i64 X) ∧ (Instr.lookup 61 (.map (some S.m)) (.int .i64 X) false).run Try.prog W = .ok (.agg #[.int .i64 2, .int .i64 (a : Int), .int .i64 (o : Int), .int .i64 y, .int .i64 s]) W) W) := Lib.hid fun W hb => by
    obtain ⟨_, _, _, _, _, d5, _⟩ := box7_ (HCW.out W hb).box
    obtain ⟨_, _, _, l3, _⟩ := box5 (HL5.out W hb)
    exact ⟨d5, l3, HLK.out W hb⟩
  have hS5 := HS5.out _ (HB1.out.trans ((drew_below w1).mono HB1.out.size))
  clear c5
  refine wp_region_held_drew (S := (fun W : World => W.cell? ⟨S.c, 5, none⟩ = some (.map (some S.m)) ∧ W.cell? ⟨gl, 3, none⟩ = some (.int .i64 X) ∧ (Instr.lookup 61 (.map (some S.m)) (.int .i64 X) false).run Try.prog W = .ok (.agg #[.int .i64 2, .int .i64 (a : Int), .int .i64 (o : Int), .int .i64 y, .int .i64 s]) W)) (by kernel_rfl) hS5 (fun _ => ?_)
  refine wpAnyH_take (i := 0) (oi := ({ dst := Option.some 32, op := Go.Op.move (Go.Operand.tmp 0), type := 28, pos := "coordinator.go:86", after := #[], guard := Option.none } : Oper)) (v := ?v0x30) rfl (by kernel_rfl) (by kernel_rfl) (by kernel_rfl) (fun _ _ _ h => h) (Or.inl ⟨by rfl, ?hy0x30⟩) hS5 ?rest0x30
  case hy0x30 =>
    intro W0 hSw
    obtain ⟨s0, s1, s2⟩ := hSw
    go_simp
    first | done | with_reducible rfl
  try simp only [Act.put, List.setIfInBounds_toArray, List.set_cons_zero, List.set_cons_succ]
  refine wpAnyH_take (i := 1) (oi := ({ dst := Option.some 33, op := Go.Op.nilCheck (Go.Operand.tmp 32), type := 0, pos := "coordinator.go:86", after := #[{ on := 0, ground := Go.Ground.data }], guard := Option.none } : Oper)) (v := ?v1x31) rfl (by kernel_rfl) (by kernel_rfl) (by kernel_rfl) (fun _ _ _ h => h) (Or.inl ⟨by rfl, ?hy1x31⟩) hS5 ?rest1x31
  case hy1x31 =>
    intro W0 hSw
    obtain ⟨s0, s1, s2⟩ := hSw
    go_simp
    first | done | with_reducible rfl
  try simp only [Act.put, List.setIfInBounds_toArray, List.set_cons_zero, List.set_cons_succ]
  refine wpAnyH_take (i := 2) (oi := ({ dst := Option.some 34, op := Go.Op.fieldAddr 63 (Go.Operand.tmp 33) 5, type := 0, pos := "coordinator.go:86", after := #[{ on := 1, ground := Go.Ground.data }], guard := Option.none } : Oper)) (v := ?v2x32) rfl (by kernel_rfl) (by kernel_rfl) (by kernel_rfl) (fun _ _ _ h => h) (Or.inl ⟨by rfl, ?hy2x32⟩) hS5 ?rest2x32
  case hy2x32 =>
    intro W0 hSw
    obtain ⟨s0, s1, s2⟩ := hSw
    go_simp
    first | done | with_reducible rfl
  try simp only [Act.put, List.setIfInBounds_toArray, List.set_cons_zero, List.set_cons_succ]
  refine wpAnyH_take (i := 3) (oi := ({ dst := Option.some 35, op := Go.Op.load 61 (Go.Operand.tmp 34), type := 61, pos := "coordinator.go:86", after := #[{ on := 2, ground := Go.Ground.data }], guard := Option.none } : Oper)) (v := ?v3x33) rfl (by kernel_rfl) (by kernel_rfl) (by kernel_rfl) (fun _ _ _ h => h) (Or.inl ⟨by rfl, ?hy3x33⟩) hS5 ?rest3x33
  case hy3x33 =>
    intro W0 hSw
    obtain ⟨s0, s1, s2⟩ := hSw
    go_simp
    first | done | with_reducible rfl
  try simp only [Act.put, List.setIfInBounds_toArray, List.set_cons_zero, List.set_cons_succ]
  refine wpAnyH_take (i := 4) (oi := ({ dst := Option.some 36, op := Go.Op.fieldAddr 46 (Go.Operand.tmp 3) 3, type := 0, pos := "coordinator.go:86", after := #[], guard := Option.none } : Oper)) (v := ?v4x34) rfl (by kernel_rfl) (by kernel_rfl) (by kernel_rfl) (fun _ _ _ h => h) (Or.inl ⟨by rfl, ?hy4x34⟩) hS5 ?rest4x34
  case hy4x34 =>
    intro W0 hSw
    obtain ⟨s0, s1, s2⟩ := hSw
    go_simp
    first | done | with_reducible rfl
  try simp only [Act.put, List.setIfInBounds_toArray, List.set_cons_zero, List.set_cons_succ]
  refine wpAnyH_take (i := 5) (oi := ({ dst := Option.some 37, op := Go.Op.load 3 (Go.Operand.tmp 36), type := 3, pos := "coordinator.go:86", after := #[{ on := 4, ground := Go.Ground.data }], guard := Option.none } : Oper)) (v := ?v5x35) rfl (by kernel_rfl) (by kernel_rfl) (by kernel_rfl) (fun _ _ _ h => h) (Or.inl ⟨by rfl, ?hy5x35⟩) hS5 ?rest5x35
  case hy5x35 =>
    intro W0 hSw
    obtain ⟨s0, s1, s2⟩ := hSw
    go_simp
    first | done | with_reducible rfl
  try simp only [Act.put, List.setIfInBounds_toArray, List.set_cons_zero, List.set_cons_succ]
  refine wpAnyH_take (i := 6) (oi := ({ dst := Option.some 38, op := Go.Op.lookup 61 (Go.Operand.tmp 35) (Go.Operand.tmp 37) Bool.false, type := 67, pos := "coordinator.go:86", after := #[{ on := 3, ground := Go.Ground.data }, { on := 5, ground := Go.Ground.data }], guard := Option.none } : Oper)) (v := ?v6x36) rfl (by kernel_rfl) (by kernel_rfl) (by kernel_rfl) (fun _ _ _ h => h) (Or.inl ⟨by rfl, ?hy6x36⟩) hS5 ?rest6x36
  case hy6x36 =>
    intro W0 hSw
    obtain ⟨s0, s1, s2⟩ := hSw
    go_simp
    first | done | with_reducible rfl
  try simp only [Act.put, List.setIfInBounds_toArray, List.set_cons_zero, List.set_cons_succ]
  refine wpAnyH_ready (rs := [7]) (by kernel_rfl) (by simp) ?_
  refine AllReadyH.cons (o := ({ dst := Option.some 5, op := Go.Op.alloc 67, type := 0, pos := "coordinator.go:86", after := #[], guard := Option.none } : Oper)) rfl (fun K0 hK0 => ?_) AllReadyH.nil
  go_simp
  refine hK0.out _ _ (HS5.out _ ?hb7) (fun _ => ?_)
  case hb7 => first | exact HB1.out.trans (((alloc_below w1 _).trans ((drew_below _).mono (by simp))).mono HB1.out.size) | exact HB1.out.trans (((drew_below w1).trans (alloc_below w1.drew _)).mono HB1.out.size)
  clear hK0 K0
  try simp only [Act.put, List.setIfInBounds_toArray, List.set_cons_zero, List.set_cons_succ]
  refine wpAnyH_ready (rs := [8]) (by kernel_rfl) (by simp) ?_
  refine AllReadyH.cons (o := ({ dst := Option.none, op := Go.Op.store 67 (Go.Operand.tmp 5) (Go.Operand.tmp 38), type := 0, pos := "coordinator.go:86", after := #[{ on := 7, ground := Go.Ground.data }, { on := 6, ground := Go.Ground.data }, { on := 0, ground := Go.Ground.phase }, { on := 1, ground := Go.Ground.phase }, { on := 2, ground := Go.Ground.phase }, { on := 3, ground := Go.Ground.phase }, { on := 4, ground := Go.Ground.phase }, { on := 5, ground := Go.Ground.phase }, { on := 6, ground := Go.Ground.phase }, { on := 7, ground := Go.Ground.phase }], guard := Option.none } : Oper)) rfl (fun K0 hK0 => ?_) AllReadyH.nil
  go_simp
  refine hK0.out _ _ (HS5.out _ ?hb8) (fun _ => ?_)
  case hb8 => first | exact HB1.out.trans (((alloc_below w1 _).trans ((drew_below _).mono (by simp))).mono HB1.out.size) | exact HB1.out.trans (((drew_below w1).trans (alloc_below w1.drew _)).mono HB1.out.size)
  clear hK0 K0
  try simp only [Act.put, List.setIfInBounds_toArray, List.set_cons_zero, List.set_cons_succ]
  refine wpAnyH_done (by kernel_rfl) ?_ _
  obtain ⟨W5, hW5⟩ : ∃ W5, Hid (W5 = (w1.alloc (.cells #[.int .i64 2, .int .i64 (a : Int), .int .i64 (o : Int), .int .i64 y, .int .i64 s] 67)).drew) := ⟨_, Lib.hid rfl⟩
  rw [← hW5.out]
  have hb5 : Below W0.heap.size W0 W5 := by rw [hW5.out]; exact HB1.out.trans (((alloc_below w1 _).trans ((drew_below _).mono (by simp))).mono HB1.out.size)
  have ht5 : W5.heap[w1.heap.size]? = some (.cells #[.int .i64 2, .int .i64 (a : Int), .int .i64 (o : Int), .int .i64 y, .int .i64 s] 67 (0, 0)) := by rw [hW5.out]; exact heap_alloc_new w1 _
  obtain ⟨l0, l1, l2, l3, l4⟩ := box5 (HL5.out _ hb5)
  obtain ⟨z0, z1, z2, z3, z4⟩ := box5 ht5
  have hcw := HCW.out _ hb5
  have hvn := HVN.out _ hb5 k HKK.out
  rw [← HXX.out] at hvn
  have HVN2 := Lib.hid hvn
  have HB5 := Lib.hid hb5
  clear hvn
  clear hb5 ht5 hcw
  go_wp2_with (go_at_call 29; refine HVN2.out.mono ?_; rintro e1 w6 ⟨rfl, hl⟩
               have HE := Lib.hid ((hl.pre HB5.out).pre HB0.out)
               clear hl)
  go_ret
  exact ⟨rfl, HE.out⟩
set_option maxRecDepth 100000 in
set_option maxHeartbeats 16000000 in
theorem hear_yel {w : World} {B : Nat} {S : CoS} (h : Co w B S) {f x : Nat} (hf16 : f < 16) (hx : x < 1099511627776) (hxn : x % 16 = S.node) {e : Te} (he : findT S.T x = some e) (hes : e.s = 2) (ho : e.o < 65536) (hy6 : e.y < 65536) (hof : e.o.testBit f = true) (hw0 : woB e.o f = 0) (hT : S.T.length < 1000) (hroom : S.b + (bytesOf S.rs).length + 905 ≤ 100000) (hos : S.os.length ≤ 50000) :
    Calls Try.prog 14 #[.pointer (some ⟨S.c, 0, none⟩), .agg #[.int .i64 2, .int .i64 (f : Int), .int .i64 (S.node : Int), .int .i64 (x : Int), .slice none 0 0]] w (fun e1 w' => e1 = .returned (.int .i64 0) ∧ CmT w B S x (e.y ||| 2 ^ f) w') := by
  have hxi : i64ok (x : Int) := by unfold i64ok; omega
  obtain ⟨k, hk⟩ : ∃ k : Int, k = 2 := ⟨_, rfl⟩
  have HRT := Lib.hid (fun W => rightL_any k (f : Int) (S.node : Int) (x : Int) [] none 0 0 rfl (by omega) W (RdI.nil _ _ _))
  rw [right_of (by omega) hf16 h.nod (by omega)] at HRT
  obtain ⟨X, hX⟩ : ∃ X : Int, X = (x : Int) := ⟨_, rfl⟩
  have hX16 : X % 16 = (S.node : Int) := by omega
  have hX17 : X.tmod 16 = (S.node : Int) := by rw [Int.tmod_eq_emod_of_nonneg (by omega)]; exact hX16
  have hX0 : 0 ≤ X := by omega
  have hnn : ((S.node : Int) != (S.node : Int)) = false := by simp
  obtain ⟨gl, hgl⟩ : ∃ gl, gl = w.heap.size := ⟨_, rfl⟩
  obtain ⟨L5, hL5⟩ : ∃ L5, L5 = Obj.cells #[.int .i64 k, .int .i64 (f : Int), .int .i64 (S.node : Int), .int .i64 X, .slice none 0 0] 46 := ⟨_, rfl⟩
  have hb0 := alloc_below w L5
  have hl5 := heap_alloc_new w L5
  obtain ⟨W0, hW0⟩ : ∃ W0, W0 = w.alloc L5 := ⟨_, rfl⟩
  rw [← hW0] at hb0 hl5
  rw [← hgl, hL5] at hl5
  have hc0 := h.below hb0
  have HB0 := Lib.hid hb0
  have HS3 : Hid (∀ W, Below W0.heap.size W0 W → (fun W : World => W.cell? ⟨gl, 0, none⟩ = some (.int .i64 k) ∧ W.cell? ⟨gl, 1, none⟩ = some (.int .i64 (f : Int)) ∧ W.cell? ⟨gl, 2, none⟩ = some (.int .i64 (S.node : Int)) ∧ W.cell? ⟨gl, 3, none⟩ = some (.int .i64 X) ∧ W.cell? ⟨gl, 4, none⟩ = some (.slice none 0 0) ∧ W.cell? ⟨S.c, 0, none⟩ = some (.int .i64 (S.node : Int))) W) := Lib.hid fun W hb => by
    obtain ⟨l0, l1, l2, l3, l4⟩ := box5 ((hb.block gl (lt_of_heap hl5)).trans hl5)
    obtain ⟨d0, _⟩ := box7_ (hc0.below hb).box
    exact ⟨l0, l1, l2, l3, l4, d0⟩
  obtain ⟨n, s0, a, o, y0, t0⟩ := e
  simp only at hes ho hy6 hof hw0 ⊢
  subst hes
  obtain ⟨y, hy⟩ : ∃ y : Int, y = (y0 : Int) := ⟨_, rfl⟩
  obtain ⟨s, hs⟩ : ∃ s : Int, s = (t0 : Int) := ⟨_, rfl⟩
  have HLK : Hid (∀ W, Below W0.heap.size W0 W → (Instr.lookup 61 (.map (some S.m)) (.int .i64 X) false).run Try.prog W = .ok (.agg #[.int .i64 2, .int .i64 (a : Int), .int .i64 (o : Int), .int .i64 y, .int .i64 s]) W) := Lib.hid fun W hb => by
    have h1 := (hc0.below hb).map.look hxi
    unfold stT at h1
    rw [hX]
    simp only [he, Te.v, teV] at h1
    rw [hy, hs]
    exact h1
  have HVN : Hid (∀ W, Below W0.heap.size W0 W → ∀ kk : Int, kk = 2 → Calls Try.prog 29 #[.pointer (some ⟨S.c, 0, none⟩), .agg #[.int .i64 kk, .int .i64 (f : Int), .int .i64 (S.node : Int), .int .i64 (x : Int), .slice none 0 0], .agg #[.int .i64 2, .int .i64 (a : Int), .int .i64 (o : Int), .int .i64 y, .int .i64 s]] W (fun e1 w1 => e1 = .returned (.int .i64 0) ∧ CmT W B S x (y0 ||| 2 ^ f) w1)) := Lib.hid fun W hb kk hkk => by
    rw [hkk]
    rw [hy, hs]
    exact vote_yesl (hc0.below hb) (S.node : Int) hf16 hxi ho y0 t0 hy6 hof hw0 hT hos hroom
  clear he hy hs ho hy6 hof hw0 hT hroom
  rw [← hX] at HRT
  rw [← hX, ← hk]
  have HC := Lib.hid (closed_any hc0)
  rw [hW0, hL5] at HC
  have HW0 := Lib.hid hW0
  rw [hL5] at HW0
  have HGL := Lib.hid hgl
  have HXX := Lib.hid hX
  have HCW : Hid (∀ W, Below W0.heap.size W0 W → Co W B S) := Lib.hid fun W hb => hc0.below hb
  have HL5 : Hid (∀ W, Below W0.heap.size W0 W → W.heap[gl]? = some (.cells #[.int .i64 k, .int .i64 (f : Int), .int .i64 (S.node : Int), .int .i64 X, .slice none 0 0] 46 (0, 0))) := Lib.hid fun W hb => (hb.block gl (lt_of_heap hl5)).trans hl5
  obtain ⟨_, _, _, _, _, c5, _⟩ := box7_ hc0.box
  have HKK := Lib.hid hk
  clear h hk hf16 hx hxn hos hxi hX hb0 hl5 hc0 hW0 hL5 hgl hX16
  go_enter Try.func14, Try.ntmps14
  go_upto_region 3 with (go_at_call 24; refine HC.out.mono ?_; rintro e1 w1 ⟨rfl, rfl⟩)
  rw [← HW0.out]
  have hSS := HS3.out _ (drew_below W0)
  rw [← HGL.out]
  refine wp_region_held_drew (S := (fun W : World => W.cell? ⟨gl, 0, none⟩ = some (.int .i64 k) ∧ W.cell? ⟨gl, 1, none⟩ = some (.int .i64 (f : Int)) ∧ W.cell? ⟨gl, 2, none⟩ = some (.int .i64 (S.node : Int)) ∧ W.cell? ⟨gl, 3, none⟩ = some (.int .i64 X) ∧ W.cell? ⟨gl, 4, none⟩ = some (.slice none 0 0) ∧ W.cell? ⟨S.c, 0, none⟩ = some (.int .i64 (S.node : Int)))) (by kernel_rfl) hSS (fun _ => ?_)
  refine wpAnyH_take (i := 0) (oi := ({ dst := Option.some 10, op := Go.Op.load 46 (Go.Operand.tmp 3), type := 46, pos := "coordinator.go:83", after := #[], guard := Option.none } : Oper)) (v := ?v0x8) rfl (by kernel_rfl) (by kernel_rfl) (by kernel_rfl) (fun _ _ _ h => h) (Or.inl ⟨by rfl, ?hy0x8⟩) hSS ?rest0x8
  case hy0x8 =>
    intro W0 hSw
    obtain ⟨s0, s1, s2, s3, s4, s5⟩ := hSw
    go_simp
    first | done | with_reducible rfl
  try simp only [Act.put, List.setIfInBounds_toArray, List.set_cons_zero, List.set_cons_succ]
  refine wpAnyH_ready (rs := [1]) (by kernel_rfl) (by simp) ?_
  refine AllReadyH.cons (o := ({ dst := Option.some 11, op := Go.Op.call { callee := Go.Callee.value (Go.Operand.func 25), args := #[Go.Operand.tmp 10], argTypes := #[46] }, type := 4, pos := "coordinator.go:83", after := #[{ on := 0, ground := Go.Ground.data }], guard := Option.none } : Oper)) rfl (fun K0 hK0 => ?_) AllReadyH.nil
  go_simp
  go_at_call 25
  refine (HRT.out _).mono ?_
  rintro e1 w1 ⟨rfl, hb1⟩
  have HB1 := Lib.hid ((drew_below W0).trans (Below.mono hb1 (Nat.le_refl _)))
  have hSS := HS3.out _ HB1.out
  clear hb1
  try go_wp2_with fail
  refine hK0.out _ _ hSS (fun _ => ?_)
  clear hK0 K0
  try simp only [Act.put, List.setIfInBounds_toArray, List.set_cons_zero, List.set_cons_succ]
  refine wpAnyH_take (i := 2) (oi := ({ dst := Option.some 12, op := Go.Op.unOp Go.UnOp.not 4 (Go.Operand.tmp 11), type := 4, pos := "coordinator.go:83", after := #[{ on := 1, ground := Go.Ground.data }], guard := Option.none } : Oper)) (v := ?v2x9) rfl (by kernel_rfl) (by kernel_rfl) (by kernel_rfl) (fun _ _ _ h => h) (Or.inl ⟨by rfl, ?hy2x9⟩) hSS ?rest2x9
  case hy2x9 =>
    intro W0 hSw
    obtain ⟨s0, s1, s2, s3, s4, s5⟩ := hSw
    go_simp
    first | done | with_reducible rfl
  try simp only [Act.put, List.setIfInBounds_toArray, List.set_cons_zero, List.set_cons_succ]
  refine wpAnyH_take (i := 3) (oi := ({ dst := Option.some 13, op := Go.Op.move (Go.Operand.tmp 12), type := 4, pos := "coordinator.go:83", after := #[{ on := 2, ground := Go.Ground.data }, { on := 1, ground := Go.Ground.chain }], guard := Option.none } : Oper)) (v := ?v3x10) rfl (by kernel_rfl) (by kernel_rfl) (by kernel_rfl) (fun _ _ _ h => h) (Or.inl ⟨by rfl, ?hy3x10⟩) hSS ?rest3x10
  case hy3x10 =>
    intro W0 hSw
    obtain ⟨s0, s1, s2, s3, s4, s5⟩ := hSw
    go_simp
    first | done | with_reducible rfl
  try simp only [Act.put, List.setIfInBounds_toArray, List.set_cons_zero, List.set_cons_succ]
  refine wpAnyH_take (i := 4) (oi := ({ dst := Option.some 14, op := Go.Op.fieldAddr 46 (Go.Operand.tmp 3) 2, type := 0, pos := "coordinator.go:83", after := #[{ on := 3, ground := Go.Ground.guard }], guard := Option.some (3, Bool.false) } : Oper)) (v := ?v4x11) rfl (by kernel_rfl) (by kernel_rfl) (by kernel_rfl) (fun _ _ _ h => h) (Or.inl ⟨by rfl, ?hy4x11⟩) hSS ?rest4x11
  case hy4x11 =>
    intro W0 hSw
    obtain ⟨s0, s1, s2, s3, s4, s5⟩ := hSw
    go_simp
    first | done | with_reducible rfl
  try simp only [Act.put, List.setIfInBounds_toArray, List.set_cons_zero, List.set_cons_succ]
  refine wpAnyH_take (i := 5) (oi := ({ dst := Option.some 15, op := Go.Op.load 3 (Go.Operand.tmp 14), type := 3, pos := "coordinator.go:83", after := #[{ on := 4, ground := Go.Ground.data }, { on := 3, ground := Go.Ground.guard }], guard := Option.some (3, Bool.false) } : Oper)) (v := ?v5x12) rfl (by kernel_rfl) (by kernel_rfl) (by kernel_rfl) (fun _ _ _ h => h) (Or.inl ⟨by rfl, ?hy5x12⟩) hSS ?rest5x12
  case hy5x12 =>
    intro W0 hSw
    obtain ⟨s0, s1, s2, s3, s4, s5⟩ := hSw
    go_simp
    first | done | with_reducible rfl
  try simp only [Act.put, List.setIfInBounds_toArray, List.set_cons_zero, List.set_cons_succ]
  refine wpAnyH_take (i := 6) (oi := ({ dst := Option.some 16, op := Go.Op.move (Go.Operand.tmp 0), type := 28, pos := "coordinator.go:83", after := #[{ on := 3, ground := Go.Ground.guard }], guard := Option.some (3, Bool.false) } : Oper)) (v := ?v6x13) rfl (by kernel_rfl) (by kernel_rfl) (by kernel_rfl) (fun _ _ _ h => h) (Or.inl ⟨by rfl, ?hy6x13⟩) hSS ?rest6x13
  case hy6x13 =>
    intro W0 hSw
    obtain ⟨s0, s1, s2, s3, s4, s5⟩ := hSw
    go_simp
    first | done | with_reducible rfl
  try simp only [Act.put, List.setIfInBounds_toArray, List.set_cons_zero, List.set_cons_succ]
  refine wpAnyH_take (i := 7) (oi := ({ dst := Option.some 17, op := Go.Op.nilCheck (Go.Operand.tmp 16), type := 0, pos := "coordinator.go:83", after := #[{ on := 6, ground := Go.Ground.data }, { on := 3, ground := Go.Ground.guard }], guard := Option.some (3, Bool.false) } : Oper)) (v := ?v7x14) rfl (by kernel_rfl) (by kernel_rfl) (by kernel_rfl) (fun _ _ _ h => h) (Or.inl ⟨by rfl, ?hy7x14⟩) hSS ?rest7x14
  case hy7x14 =>
    intro W0 hSw
    obtain ⟨s0, s1, s2, s3, s4, s5⟩ := hSw
    go_simp
    first | done | with_reducible rfl
  try simp only [Act.put, List.setIfInBounds_toArray, List.set_cons_zero, List.set_cons_succ]
  refine wpAnyH_take (i := 8) (oi := ({ dst := Option.some 18, op := Go.Op.fieldAddr 63 (Go.Operand.tmp 17) 0, type := 0, pos := "coordinator.go:83", after := #[{ on := 7, ground := Go.Ground.data }, { on := 3, ground := Go.Ground.guard }], guard := Option.some (3, Bool.false) } : Oper)) (v := ?v8x15) rfl (by kernel_rfl) (by kernel_rfl) (by kernel_rfl) (fun _ _ _ h => h) (Or.inl ⟨by rfl, ?hy8x15⟩) hSS ?rest8x15
  case hy8x15 =>
    intro W0 hSw
    obtain ⟨s0, s1, s2, s3, s4, s5⟩ := hSw
    go_simp
    first | done | with_reducible rfl
  try simp only [Act.put, List.setIfInBounds_toArray, List.set_cons_zero, List.set_cons_succ]
  refine wpAnyH_take (i := 9) (oi := ({ dst := Option.some 19, op := Go.Op.load 3 (Go.Operand.tmp 18), type := 3, pos := "coordinator.go:83", after := #[{ on := 8, ground := Go.Ground.data }, { on := 3, ground := Go.Ground.guard }], guard := Option.some (3, Bool.false) } : Oper)) (v := ?v9x16) rfl (by kernel_rfl) (by kernel_rfl) (by kernel_rfl) (fun _ _ _ h => h) (Or.inl ⟨by rfl, ?hy9x16⟩) hSS ?rest9x16
  case hy9x16 =>
    intro W0 hSw
    obtain ⟨s0, s1, s2, s3, s4, s5⟩ := hSw
    go_simp
    first | done | with_reducible rfl
  try simp only [Act.put, List.setIfInBounds_toArray, List.set_cons_zero, List.set_cons_succ]
  refine wpAnyH_take (i := 10) (oi := ({ dst := Option.some 20, op := Go.Op.binOp Go.BinOp.neq 3 (Go.Operand.tmp 15) (Go.Operand.tmp 19) 3, type := 4, pos := "coordinator.go:83", after := #[{ on := 5, ground := Go.Ground.data }, { on := 9, ground := Go.Ground.data }, { on := 3, ground := Go.Ground.guard }], guard := Option.some (3, Bool.false) } : Oper)) (v := ?v10x17) rfl (by kernel_rfl) (by kernel_rfl) (by kernel_rfl) (fun _ _ _ h => h) (Or.inl ⟨by rfl, ?hy10x17⟩) hSS ?rest10x17
  case hy10x17 =>
    intro W0 hSw
    obtain ⟨s0, s1, s2, s3, s4, s5⟩ := hSw
    go_simp
    first | done | with_reducible rfl
  try simp only [Act.put, List.setIfInBounds_toArray, List.set_cons_zero, List.set_cons_succ]
  refine wpAnyH_take (i := 11) (oi := ({ dst := Option.some 21, op := Go.Op.pick (Go.Operand.tmp 13) (Go.Operand.const (Go.Value.bool Bool.true)) (Go.Operand.tmp 20), type := 4, pos := "coordinator.go:83", after := #[{ on := 3, ground := Go.Ground.data }, { on := 10, ground := Go.Ground.data }], guard := Option.none } : Oper)) (v := ?v11x18) rfl (by kernel_rfl) (by kernel_rfl) (by kernel_rfl) (fun _ _ _ h => h) (Or.inl ⟨by rfl, ?hy11x18⟩) hSS ?rest11x18
  case hy11x18 =>
    intro W0 hSw
    obtain ⟨s0, s1, s2, s3, s4, s5⟩ := hSw
    go_simp
    first | done | with_reducible rfl
  try simp only [Act.put, List.setIfInBounds_toArray, List.set_cons_zero, List.set_cons_succ]
  refine wpAnyH_take (i := 12) (oi := ({ dst := Option.some 22, op := Go.Op.move (Go.Operand.tmp 21), type := 4, pos := "coordinator.go:83", after := #[{ on := 11, ground := Go.Ground.data }, { on := 3, ground := Go.Ground.chain }], guard := Option.none } : Oper)) (v := ?v12x19) rfl (by kernel_rfl) (by kernel_rfl) (by kernel_rfl) (fun _ _ _ h => h) (Or.inl ⟨by rfl, ?hy12x19⟩) hSS ?rest12x19
  case hy12x19 =>
    intro W0 hSw
    obtain ⟨s0, s1, s2, s3, s4, s5⟩ := hSw
    go_simp
    first | done | with_reducible rfl
  try simp only [Act.put, List.setIfInBounds_toArray, List.set_cons_zero, List.set_cons_succ]
  refine wpAnyH_take (i := 13) (oi := ({ dst := Option.some 23, op := Go.Op.fieldAddr 46 (Go.Operand.tmp 3) 3, type := 0, pos := "coordinator.go:83", after := #[{ on := 12, ground := Go.Ground.guard }], guard := Option.some (12, Bool.false) } : Oper)) (v := ?v13x20) rfl (by kernel_rfl) (by kernel_rfl) (by kernel_rfl) (fun _ _ _ h => h) (Or.inl ⟨by rfl, ?hy13x20⟩) hSS ?rest13x20
  case hy13x20 =>
    intro W0 hSw
    obtain ⟨s0, s1, s2, s3, s4, s5⟩ := hSw
    go_simp
    first | done | with_reducible rfl
  try simp only [Act.put, List.setIfInBounds_toArray, List.set_cons_zero, List.set_cons_succ]
  refine wpAnyH_take (i := 14) (oi := ({ dst := Option.some 24, op := Go.Op.load 3 (Go.Operand.tmp 23), type := 3, pos := "coordinator.go:83", after := #[{ on := 13, ground := Go.Ground.data }, { on := 12, ground := Go.Ground.guard }], guard := Option.some (12, Bool.false) } : Oper)) (v := ?v14x21) rfl (by kernel_rfl) (by kernel_rfl) (by kernel_rfl) (fun _ _ _ h => h) (Or.inl ⟨by rfl, ?hy14x21⟩) hSS ?rest14x21
  case hy14x21 =>
    intro W0 hSw
    obtain ⟨s0, s1, s2, s3, s4, s5⟩ := hSw
    go_simp
    first | done | with_reducible rfl
  try simp only [Act.put, List.setIfInBounds_toArray, List.set_cons_zero, List.set_cons_succ]
  refine wpAnyH_take (i := 15) (oi := ({ dst := Option.some 25, op := Go.Op.binOp Go.BinOp.rem 3 (Go.Operand.tmp 24) (Go.Operand.const (Go.Value.int Go.IntKind.i64 16)) 3, type := 3, pos := "coordinator.go:83", after := #[{ on := 14, ground := Go.Ground.data }, { on := 12, ground := Go.Ground.guard }], guard := Option.some (12, Bool.false) } : Oper)) (v := ?v15x22) rfl (by kernel_rfl) (by kernel_rfl) (by kernel_rfl) (fun _ _ _ h => h) (Or.inl ⟨by rfl, ?hy15x22⟩) hSS ?rest15x22
  case hy15x22 =>
    intro W0 hSw
    obtain ⟨s0, s1, s2, s3, s4, s5⟩ := hSw
    go_simp
    first | done | with_reducible rfl
  try simp only [Act.put, List.setIfInBounds_toArray, List.set_cons_zero, List.set_cons_succ]
  refine wpAnyH_take (i := 16) (oi := ({ dst := Option.some 26, op := Go.Op.move (Go.Operand.tmp 0), type := 28, pos := "coordinator.go:83", after := #[{ on := 12, ground := Go.Ground.guard }], guard := Option.some (12, Bool.false) } : Oper)) (v := ?v16x23) rfl (by kernel_rfl) (by kernel_rfl) (by kernel_rfl) (fun _ _ _ h => h) (Or.inl ⟨by rfl, ?hy16x23⟩) hSS ?rest16x23
  case hy16x23 =>
    intro W0 hSw
    obtain ⟨s0, s1, s2, s3, s4, s5⟩ := hSw
    go_simp
    first | done | with_reducible rfl
  try simp only [Act.put, List.setIfInBounds_toArray, List.set_cons_zero, List.set_cons_succ]
  refine wpAnyH_take (i := 17) (oi := ({ dst := Option.some 27, op := Go.Op.nilCheck (Go.Operand.tmp 26), type := 0, pos := "coordinator.go:83", after := #[{ on := 16, ground := Go.Ground.data }, { on := 12, ground := Go.Ground.guard }], guard := Option.some (12, Bool.false) } : Oper)) (v := ?v17x24) rfl (by kernel_rfl) (by kernel_rfl) (by kernel_rfl) (fun _ _ _ h => h) (Or.inl ⟨by rfl, ?hy17x24⟩) hSS ?rest17x24
  case hy17x24 =>
    intro W0 hSw
    obtain ⟨s0, s1, s2, s3, s4, s5⟩ := hSw
    go_simp
    first | done | with_reducible rfl
  try simp only [Act.put, List.setIfInBounds_toArray, List.set_cons_zero, List.set_cons_succ]
  refine wpAnyH_take (i := 18) (oi := ({ dst := Option.some 28, op := Go.Op.fieldAddr 63 (Go.Operand.tmp 27) 0, type := 0, pos := "coordinator.go:83", after := #[{ on := 17, ground := Go.Ground.data }, { on := 12, ground := Go.Ground.guard }], guard := Option.some (12, Bool.false) } : Oper)) (v := ?v18x25) rfl (by kernel_rfl) (by kernel_rfl) (by kernel_rfl) (fun _ _ _ h => h) (Or.inl ⟨by rfl, ?hy18x25⟩) hSS ?rest18x25
  case hy18x25 =>
    intro W0 hSw
    obtain ⟨s0, s1, s2, s3, s4, s5⟩ := hSw
    go_simp
    first | done | with_reducible rfl
  try simp only [Act.put, List.setIfInBounds_toArray, List.set_cons_zero, List.set_cons_succ]
  refine wpAnyH_take (i := 19) (oi := ({ dst := Option.some 29, op := Go.Op.load 3 (Go.Operand.tmp 28), type := 3, pos := "coordinator.go:83", after := #[{ on := 18, ground := Go.Ground.data }, { on := 12, ground := Go.Ground.guard }], guard := Option.some (12, Bool.false) } : Oper)) (v := ?v19x26) rfl (by kernel_rfl) (by kernel_rfl) (by kernel_rfl) (fun _ _ _ h => h) (Or.inl ⟨by rfl, ?hy19x26⟩) hSS ?rest19x26
  case hy19x26 =>
    intro W0 hSw
    obtain ⟨s0, s1, s2, s3, s4, s5⟩ := hSw
    go_simp
    first | done | with_reducible rfl
  try simp only [Act.put, List.setIfInBounds_toArray, List.set_cons_zero, List.set_cons_succ]
  refine wpAnyH_take (i := 20) (oi := ({ dst := Option.some 30, op := Go.Op.binOp Go.BinOp.neq 3 (Go.Operand.tmp 25) (Go.Operand.tmp 29) 3, type := 4, pos := "coordinator.go:83", after := #[{ on := 15, ground := Go.Ground.data }, { on := 19, ground := Go.Ground.data }, { on := 12, ground := Go.Ground.guard }], guard := Option.some (12, Bool.false) } : Oper)) (v := ?v20x27) rfl (by kernel_rfl) (by kernel_rfl) (by kernel_rfl) (fun _ _ _ h => h) (Or.inl ⟨by rfl, ?hy20x27⟩) hSS ?rest20x27
  case hy20x27 =>
    intro W0 hSw
    obtain ⟨s0, s1, s2, s3, s4, s5⟩ := hSw
    go_simp
    first | done | with_reducible rfl
  try simp only [Act.put, List.setIfInBounds_toArray, List.set_cons_zero, List.set_cons_succ]
  refine wpAnyH_take (i := 21) (oi := ({ dst := Option.some 31, op := Go.Op.pick (Go.Operand.tmp 22) (Go.Operand.const (Go.Value.bool Bool.true)) (Go.Operand.tmp 30), type := 4, pos := "coordinator.go:83", after := #[{ on := 12, ground := Go.Ground.data }, { on := 20, ground := Go.Ground.data }], guard := Option.none } : Oper)) (v := ?v21x28) rfl (by kernel_rfl) (by kernel_rfl) (by kernel_rfl) (fun _ _ _ h => h) (Or.inl ⟨by rfl, ?hy21x28⟩) hSS ?rest21x28
  case hy21x28 =>
    intro W0 hSw
    obtain ⟨s0, s1, s2, s3, s4, s5⟩ := hSw
    go_simp
    first | done | with_reducible rfl
  try simp only [Act.put, List.setIfInBounds_toArray, List.set_cons_zero, List.set_cons_succ]
  refine wpAnyH_take (i := 22) (oi := ({ dst := Option.some 9, op := Go.Op.assign (Go.Operand.tmp 31), type := 4, pos := "coordinator.go:83", after := #[{ on := 21, ground := Go.Ground.data }, { on := 12, ground := Go.Ground.chain }], guard := Option.none } : Oper)) (v := ?v22x29) rfl (by kernel_rfl) (by kernel_rfl) (by kernel_rfl) (fun _ _ _ h => h) (Or.inl ⟨by rfl, ?hy22x29⟩) hSS ?rest22x29
  case hy22x29 =>
    intro W0 hSw
    obtain ⟨s0, s1, s2, s3, s4, s5⟩ := hSw
    go_simp
    first | done | with_reducible rfl
  try simp only [Act.put, List.setIfInBounds_toArray, List.set_cons_zero, List.set_cons_succ]
  refine wpAnyH_done (by kernel_rfl) ?_ _
  go_upto_region 5 with fail
  have e2 : (k == 2) = true := by rw [HKK.out]; rfl
  have e3 : (k == 3) = false := by rw [HKK.out]; rfl
  have e4 : (k == 4) = false := by rw [HKK.out]; rfl
  have e7 : (k == 7) = false := by rw [HKK.out]; rfl
  have e8 : (k == 8) = false := by rw [HKK.out]; rfl
  have HS5 : Hid (∀ W, Below W0.heap.size W0 W → (fun W : World => W.cell? ⟨S.c, 5, none⟩ = some (.map (some S.m)) ∧ W.cell? ⟨gl, 3, none⟩ = some (.int .i64 X) ∧ (Instr.lookup 61 (.map (some S.m)) (.int .i64 X) false).run Try.prog W = .ok (.agg #[.int .i64 2, .int .i64 (a : Int), .int .i64 (o : Int), .int .i64 y, .int .i64 s]) W) W) := Lib.hid fun W hb => by
    obtain ⟨_, _, _, _, _, d5, _⟩ := box7_ (HCW.out W hb).box
    obtain ⟨_, _, _, l3, _⟩ := box5 (HL5.out W hb)
    exact ⟨d5, l3, HLK.out W hb⟩
  have hS5 := HS5.out _ (HB1.out.trans ((drew_below w1).mono HB1.out.size))
  clear c5
  refine wp_region_held_drew (S := (fun W : World => W.cell? ⟨S.c, 5, none⟩ = some (.map (some S.m)) ∧ W.cell? ⟨gl, 3, none⟩ = some (.int .i64 X) ∧ (Instr.lookup 61 (.map (some S.m)) (.int .i64 X) false).run Try.prog W = .ok (.agg #[.int .i64 2, .int .i64 (a : Int), .int .i64 (o : Int), .int .i64 y, .int .i64 s]) W)) (by kernel_rfl) hS5 (fun _ => ?_)
  refine wpAnyH_take (i := 0) (oi := ({ dst := Option.some 32, op := Go.Op.move (Go.Operand.tmp 0), type := 28, pos := "coordinator.go:86", after := #[], guard := Option.none } : Oper)) (v := ?v0x30) rfl (by kernel_rfl) (by kernel_rfl) (by kernel_rfl) (fun _ _ _ h => h) (Or.inl ⟨by rfl, ?hy0x30⟩) hS5 ?rest0x30
  case hy0x30 =>
    intro W0 hSw
    obtain ⟨s0, s1, s2⟩ := hSw
    go_simp
    first | done | with_reducible rfl
  try simp only [Act.put, List.setIfInBounds_toArray, List.set_cons_zero, List.set_cons_succ]
  refine wpAnyH_take (i := 1) (oi := ({ dst := Option.some 33, op := Go.Op.nilCheck (Go.Operand.tmp 32), type := 0, pos := "coordinator.go:86", after := #[{ on := 0, ground := Go.Ground.data }], guard := Option.none } : Oper)) (v := ?v1x31) rfl (by kernel_rfl) (by kernel_rfl) (by kernel_rfl) (fun _ _ _ h => h) (Or.inl ⟨by rfl, ?hy1x31⟩) hS5 ?rest1x31
  case hy1x31 =>
    intro W0 hSw
    obtain ⟨s0, s1, s2⟩ := hSw
    go_simp
    first | done | with_reducible rfl
  try simp only [Act.put, List.setIfInBounds_toArray, List.set_cons_zero, List.set_cons_succ]
  refine wpAnyH_take (i := 2) (oi := ({ dst := Option.some 34, op := Go.Op.fieldAddr 63 (Go.Operand.tmp 33) 5, type := 0, pos := "coordinator.go:86", after := #[{ on := 1, ground := Go.Ground.data }], guard := Option.none } : Oper)) (v := ?v2x32) rfl (by kernel_rfl) (by kernel_rfl) (by kernel_rfl) (fun _ _ _ h => h) (Or.inl ⟨by rfl, ?hy2x32⟩) hS5 ?rest2x32
  case hy2x32 =>
    intro W0 hSw
    obtain ⟨s0, s1, s2⟩ := hSw
    go_simp
    first | done | with_reducible rfl
  try simp only [Act.put, List.setIfInBounds_toArray, List.set_cons_zero, List.set_cons_succ]
  refine wpAnyH_take (i := 3) (oi := ({ dst := Option.some 35, op := Go.Op.load 61 (Go.Operand.tmp 34), type := 61, pos := "coordinator.go:86", after := #[{ on := 2, ground := Go.Ground.data }], guard := Option.none } : Oper)) (v := ?v3x33) rfl (by kernel_rfl) (by kernel_rfl) (by kernel_rfl) (fun _ _ _ h => h) (Or.inl ⟨by rfl, ?hy3x33⟩) hS5 ?rest3x33
  case hy3x33 =>
    intro W0 hSw
    obtain ⟨s0, s1, s2⟩ := hSw
    go_simp
    first | done | with_reducible rfl
  try simp only [Act.put, List.setIfInBounds_toArray, List.set_cons_zero, List.set_cons_succ]
  refine wpAnyH_take (i := 4) (oi := ({ dst := Option.some 36, op := Go.Op.fieldAddr 46 (Go.Operand.tmp 3) 3, type := 0, pos := "coordinator.go:86", after := #[], guard := Option.none } : Oper)) (v := ?v4x34) rfl (by kernel_rfl) (by kernel_rfl) (by kernel_rfl) (fun _ _ _ h => h) (Or.inl ⟨by rfl, ?hy4x34⟩) hS5 ?rest4x34
  case hy4x34 =>
    intro W0 hSw
    obtain ⟨s0, s1, s2⟩ := hSw
    go_simp
    first | done | with_reducible rfl
  try simp only [Act.put, List.setIfInBounds_toArray, List.set_cons_zero, List.set_cons_succ]
  refine wpAnyH_take (i := 5) (oi := ({ dst := Option.some 37, op := Go.Op.load 3 (Go.Operand.tmp 36), type := 3, pos := "coordinator.go:86", after := #[{ on := 4, ground := Go.Ground.data }], guard := Option.none } : Oper)) (v := ?v5x35) rfl (by kernel_rfl) (by kernel_rfl) (by kernel_rfl) (fun _ _ _ h => h) (Or.inl ⟨by rfl, ?hy5x35⟩) hS5 ?rest5x35
  case hy5x35 =>
    intro W0 hSw
    obtain ⟨s0, s1, s2⟩ := hSw
    go_simp
    first | done | with_reducible rfl
  try simp only [Act.put, List.setIfInBounds_toArray, List.set_cons_zero, List.set_cons_succ]
  refine wpAnyH_take (i := 6) (oi := ({ dst := Option.some 38, op := Go.Op.lookup 61 (Go.Operand.tmp 35) (Go.Operand.tmp 37) Bool.false, type := 67, pos := "coordinator.go:86", after := #[{ on := 3, ground := Go.Ground.data }, { on := 5, ground := Go.Ground.data }], guard := Option.none } : Oper)) (v := ?v6x36) rfl (by kernel_rfl) (by kernel_rfl) (by kernel_rfl) (fun _ _ _ h => h) (Or.inl ⟨by rfl, ?hy6x36⟩) hS5 ?rest6x36
  case hy6x36 =>
    intro W0 hSw
    obtain ⟨s0, s1, s2⟩ := hSw
    go_simp
    first | done | with_reducible rfl
  try simp only [Act.put, List.setIfInBounds_toArray, List.set_cons_zero, List.set_cons_succ]
  refine wpAnyH_ready (rs := [7]) (by kernel_rfl) (by simp) ?_
  refine AllReadyH.cons (o := ({ dst := Option.some 5, op := Go.Op.alloc 67, type := 0, pos := "coordinator.go:86", after := #[], guard := Option.none } : Oper)) rfl (fun K0 hK0 => ?_) AllReadyH.nil
  go_simp
  refine hK0.out _ _ (HS5.out _ ?hb7) (fun _ => ?_)
  case hb7 => first | exact HB1.out.trans (((alloc_below w1 _).trans ((drew_below _).mono (by simp))).mono HB1.out.size) | exact HB1.out.trans (((drew_below w1).trans (alloc_below w1.drew _)).mono HB1.out.size)
  clear hK0 K0
  try simp only [Act.put, List.setIfInBounds_toArray, List.set_cons_zero, List.set_cons_succ]
  refine wpAnyH_ready (rs := [8]) (by kernel_rfl) (by simp) ?_
  refine AllReadyH.cons (o := ({ dst := Option.none, op := Go.Op.store 67 (Go.Operand.tmp 5) (Go.Operand.tmp 38), type := 0, pos := "coordinator.go:86", after := #[{ on := 7, ground := Go.Ground.data }, { on := 6, ground := Go.Ground.data }, { on := 0, ground := Go.Ground.phase }, { on := 1, ground := Go.Ground.phase }, { on := 2, ground := Go.Ground.phase }, { on := 3, ground := Go.Ground.phase }, { on := 4, ground := Go.Ground.phase }, { on := 5, ground := Go.Ground.phase }, { on := 6, ground := Go.Ground.phase }, { on := 7, ground := Go.Ground.phase }], guard := Option.none } : Oper)) rfl (fun K0 hK0 => ?_) AllReadyH.nil
  go_simp
  refine hK0.out _ _ (HS5.out _ ?hb8) (fun _ => ?_)
  case hb8 => first | exact HB1.out.trans (((alloc_below w1 _).trans ((drew_below _).mono (by simp))).mono HB1.out.size) | exact HB1.out.trans (((drew_below w1).trans (alloc_below w1.drew _)).mono HB1.out.size)
  clear hK0 K0
  try simp only [Act.put, List.setIfInBounds_toArray, List.set_cons_zero, List.set_cons_succ]
  refine wpAnyH_done (by kernel_rfl) ?_ _
  obtain ⟨W5, hW5⟩ : ∃ W5, Hid (W5 = (w1.alloc (.cells #[.int .i64 2, .int .i64 (a : Int), .int .i64 (o : Int), .int .i64 y, .int .i64 s] 67)).drew) := ⟨_, Lib.hid rfl⟩
  rw [← hW5.out]
  have hb5 : Below W0.heap.size W0 W5 := by rw [hW5.out]; exact HB1.out.trans (((alloc_below w1 _).trans ((drew_below _).mono (by simp))).mono HB1.out.size)
  have ht5 : W5.heap[w1.heap.size]? = some (.cells #[.int .i64 2, .int .i64 (a : Int), .int .i64 (o : Int), .int .i64 y, .int .i64 s] 67 (0, 0)) := by rw [hW5.out]; exact heap_alloc_new w1 _
  obtain ⟨l0, l1, l2, l3, l4⟩ := box5 (HL5.out _ hb5)
  obtain ⟨z0, z1, z2, z3, z4⟩ := box5 ht5
  have hcw := HCW.out _ hb5
  have hvn := HVN.out _ hb5 k HKK.out
  rw [← HXX.out] at hvn
  have HVN2 := Lib.hid hvn
  have HB5 := Lib.hid hb5
  clear hvn
  clear hb5 ht5 hcw
  go_wp2_with (go_at_call 29; refine HVN2.out.mono ?_; rintro e1 w6 ⟨rfl, hl⟩
               have HE := Lib.hid ((hl.pre HB5.out).pre HB0.out)
               clear hl)
  go_ret
  exact ⟨rfl, HE.out⟩
end

section
open Go.RowKit
theorem MapT.drop {w : World} {m : Nat} {T : List Te} (h : MapT w m T) {x : Nat} (hx : i64ok (x : Int)) : ∃ w', (Builtin.delete_ #[61, 3] 0 #[.map (some m), .int .i64 (x : Int)]).run Try.prog w = .ok (.tuple #[]) w' ∧ MapT w' m (dropT T x) ∧ Only (· = m) w w' := by
  obtain ⟨D, hown, hrep⟩ := h
  obtain ⟨w1, hrun, hown1, hturn⟩ := hown.drop lawKT Try.underlying61 (keyZT hx) 0
  have hp := hrep.del x
  have h1 := ownsMap_tightT hown1
  have h5 : Maps.size (D.del (.int .i64 (x : Int))) = _ := hp.size
  rw [h5] at h1
  exact ⟨w1, hrun, ⟨_, h1, hp⟩, (Only.of_grown hturn.grown).more fun j _ hj => by injection hj⟩
/-- the record of what is forgotten -/
def forR (x : Nat) : List UInt8 := rowB (recV 2 [(x : Int)])
/-- what the last Done leaves -/
def DnT (w : World) (B : Nat) (S : CoS) (x : Nat) (w' : World) : Prop := ∃ g' d', Co w' B { S with g := g', d := d', pre := [], rs := S.rs ++ [forR x], T := dropT S.T x } ∧ FrA S w w' S.ov g' d'
theorem DnT.pre {w w1 w3 : World} {B : Nat} {S : CoS} {x : Nat} (hb : Below w.heap.size w w1) (h : DnT w1 B S x w3) : DnT w B S x w3 := by
  obtain ⟨g', d', h1, h3, h4, h5, h6⟩ := h
  have hz := hb.size
  exact ⟨g', d', h1, (Only.of_below hb).trans h3 fun j _ hj => hj, fun j hj => (h4 j hj).imp id fun h => Nat.le_trans hz h, h5.imp id fun h => Nat.le_trans hz h, h6.imp id fun h => Nat.le_trans hz h⟩
theorem rd_oneJ (w : World) (n : Int) : RdI (w.alloc (.cells #[.int .i64 n] 3)) (w.alloc (.cells #[.int .i64 n] 3)).heap.size (some ⟨w.heap.size, 0, none⟩) [n] := fun _ => ⟨_, _, rfl, by simp, fun j d hj => by
  have hh : (w.alloc (.cells #[.int .i64 n] 3)).heap[w.heap.size]? = _ := heap_alloc_new w _
  rw [cell_of_row _ _ _ _ _ (0, 0) hh]
  match j with
  | 0 => simp at hj; subst hj; rfl
  | j + 1 => simp at hj⟩
set_option maxRecDepth 100000 in
set_option maxHeartbeats 16000000 in
theorem done_more {w : World} {B : Nat} {S : CoS} (h : Co w B S) (t : Int) {f x : Nat} (hf16 : f < 16) (hx : i64ok (x : Int)) {a o : Nat} (ho : o < 65536) (y s : Nat) (hw0 : woB o f ≠ 0) (hT : S.T.length < 1000) :
    Calls Try.prog 30 #[.pointer (some ⟨S.c, 0, none⟩), .agg #[.int .i64 7, .int .i64 (f : Int), .int .i64 t, .int .i64 (x : Int), .slice none 0 0], .agg #[.int .i64 3, .int .i64 (a : Int), .int .i64 (o : Int), .int .i64 (y : Int), .int .i64 (s : Int)]] w (fun e w' => e = .returned (.tuple #[]) ∧ LtT w B S (putT S.T ⟨x, 3, a, woB o f, y, s⟩) [] w') := by
  have HWP := Lib.hid (fun W => without_any (n := f) ho hf16 W)
  have hz0 : (((woB o f : Nat) : Int) != 0) = true := by simp; omega
  obtain ⟨X, hX⟩ : ∃ X : Int, X = (x : Int) := ⟨_, rfl⟩
  have HX := Lib.hid hX
  obtain ⟨L5, hL5⟩ : ∃ L5, L5 = Obj.cells #[.int .i64 7, .int .i64 (f : Int), .int .i64 t, .int .i64 X, .slice none 0 0] 46 := ⟨_, rfl⟩
  obtain ⟨T5, hT5⟩ : ∃ T5, T5 = Obj.cells #[.int .i64 3, .int .i64 (a : Int), .int .i64 (o : Int), .int .i64 (y : Int), .int .i64 (s : Int)] 67 := ⟨_, rfl⟩
  have hb2 := alloc2_below w L5 T5
  have hl5 : ((w.alloc L5).alloc T5).heap[w.heap.size]? = some L5 := ((alloc_below (w.alloc L5) T5).block _ (by simp)).trans (heap_alloc_new w L5)
  have ht5 := heap_alloc_new (w.alloc L5) T5
  rw [show (w.alloc L5).heap.size = w.heap.size + 1 by simp] at ht5
  have HCW : Hid (∀ W, Below w.heap.size w W → Co W B S) := Lib.hid fun W hb => h.below hb
  rw [hT5] at ht5
  have f2 := frozen_of ht5 2
  rw [hL5] at ht5 f2
  obtain ⟨_, _, z2, _, _⟩ := box5 ht5
  have HST : Hid (∀ W, Below w.heap.size w W → ∃ w2, (Instr.mapUpdate 61 (.map (some S.m)) (.int .i64 X) (.agg #[.int .i64 3, .int .i64 (a : Int), .int .i64 ((woB o f : Nat) : Int), .int .i64 (y : Int), .int .i64 (s : Int)])).run Try.prog W = .ok () w2 ∧ Co w2 B { S with T := putT S.T ⟨x, 3, a, woB o f, y, s⟩ } ∧ Only (· = S.m) W w2) := Lib.hid fun W hb => by
    have hc := h.below hb
    obtain ⟨w2, h1, h2, h3⟩ := hc.map.store hT hx 3 a (woB o f) y s (.agg #[.int .i64 3, .int .i64 (a : Int), .int .i64 ((woB o f : Nat) : Int), .int .i64 (y : Int), .int .i64 (s : Int)]) rfl
    exact ⟨w2, by rw [hX]; exact h1, hc.mapped h3 h2, h3⟩
  rw [← hX]
  clear h hf16 hx ho hX hL5 hT5 hl5 ht5 hb2 hw0 hT
  go_enter Try.func30, Try.ntmps30
  go_upto_region 4 with (go_at_call 48; refine (HWP.out _).mono ?_; rintro e1 w1 ⟨rfl, rfl⟩)
  clear z2 f2
  obtain ⟨W0, hW0⟩ : ∃ W0, Hid (W0 = (w.alloc (.cells #[.int .i64 7, .int .i64 (f : Int), .int .i64 t, .int .i64 X, .slice none 0 0] 46)).alloc (.cells #[.int .i64 3, .int .i64 (a : Int), .int .i64 ((woB o f : Nat) : Int), .int .i64 (y : Int), .int .i64 (s : Int)] 67)) := ⟨_, Lib.hid rfl⟩
  rw [← hW0.out]
  have hb0 : Below w.heap.size w W0 := by rw [hW0.out]; exact alloc2_below w _ _
  have hl0 : W0.heap[w.heap.size]? = some (.cells #[.int .i64 7, .int .i64 (f : Int), .int .i64 t, .int .i64 X, .slice none 0 0] 46 (0, 0)) := by rw [hW0.out]; exact ((alloc_below (w.alloc _) _).block _ (by simp)).trans (heap_alloc_new w _)
  have ht0 : W0.heap[w.heap.size + 1]? = some (.cells #[.int .i64 3, .int .i64 (a : Int), .int .i64 ((woB o f : Nat) : Int), .int .i64 (y : Int), .int .i64 (s : Int)] 67 (0, 0)) := by
    have h1 := heap_alloc_new (w.alloc (.cells #[.int .i64 7, .int .i64 (f : Int), .int .i64 t, .int .i64 X, .slice none 0 0] 46)) (.cells #[.int .i64 3, .int .i64 (a : Int), .int .i64 ((woB o f : Nat) : Int), .int .i64 (y : Int), .int .i64 (s : Int)] 67)
    rw [show (w.alloc (.cells #[.int .i64 7, .int .i64 (f : Int), .int .i64 t, .int .i64 X, .slice none 0 0] 46)).heap.size = w.heap.size + 1 by simp] at h1
    rw [hW0.out]; exact h1
  obtain ⟨gl, hgl⟩ : ∃ gl, gl = w.heap.size := ⟨_, rfl⟩
  obtain ⟨gt, hgt⟩ : ∃ gt, gt = w.heap.size + 1 := ⟨_, rfl⟩
  obtain ⟨A1, hA1⟩ : ∃ A1 : Int, A1 = (a : Int) := ⟨_, rfl⟩
  obtain ⟨O1, hO1⟩ : ∃ O1 : Int, O1 = ((woB o f : Nat) : Int) := ⟨_, rfl⟩
  obtain ⟨Y1, hY1⟩ : ∃ Y1 : Int, Y1 = (y : Int) := ⟨_, rfl⟩
  obtain ⟨S1, hS1⟩ : ∃ S1 : Int, S1 = (s : Int) := ⟨_, rfl⟩
  rw [← hA1, ← hO1, ← hY1, ← hS1] at HST
  rw [← hO1, ← hA1, ← hY1, ← hS1] at ht0
  have hl1 : W0.drew.heap[gl]? = some (.cells #[.int .i64 7, .int .i64 (f : Int), .int .i64 t, .int .i64 X, .slice none 0 0] 46 (0, 0)) := by rw [hgl]; exact hl0
  have ht1 := (show W0.drew.heap[w.heap.size + 1]? = W0.heap[w.heap.size + 1]? from rfl).trans ht0
  rw [← hgt] at ht1
  have hbd := hb0.trans ((drew_below W0).mono hb0.size)
  have hcd := HCW.out _ hbd
  obtain ⟨w2, hmp, hc2, hOm⟩ := HST.out _ hbd
  have HBW := Lib.hid hbd
  have HE : Hid (LtT w B S (putT S.T ⟨x, 3, a, woB o f, y, s⟩) [] w2) := Lib.hid ⟨S.ov, [], by rw [List.append_nil]; exact hc2, rfl, (Only.of_below hbd).trans hOm fun j _ hj => .inr (.inl hj), fun j hj => .inl hj⟩
  have hml : S.m < w.heap.size := (HCW.out w (Below.refl _ _)).map.lt
  have hSS : (fun W : World => W.cell? ⟨S.c, 5, none⟩ = some (.map (some S.m)) ∧ W.cell? ⟨gl, 3, none⟩ = some (.int .i64 X) ∧ W.cell? ⟨gt, 0, none⟩ = some (.int .i64 3) ∧ W.cell? ⟨gt, 1, none⟩ = some (.int .i64 A1) ∧ W.cell? ⟨gt, 2, none⟩ = some (.int .i64 O1) ∧ W.cell? ⟨gt, 3, none⟩ = some (.int .i64 Y1) ∧ W.cell? ⟨gt, 4, none⟩ = some (.int .i64 S1)) W0.drew := by
    obtain ⟨_, _, _, _, _, c5, _⟩ := box7_ hcd.box
    obtain ⟨_, l1, _, l3, _⟩ := box5 hl1
    obtain ⟨t0, t1, t2, t3, t4⟩ := box5 ht1
    exact ⟨c5, l3, t0, t1, t2, t3, t4⟩
  have hS2 : Hid ((fun W : World => W.cell? ⟨S.c, 5, none⟩ = some (.map (some S.m)) ∧ W.cell? ⟨gl, 3, none⟩ = some (.int .i64 X) ∧ W.cell? ⟨gt, 0, none⟩ = some (.int .i64 3) ∧ W.cell? ⟨gt, 1, none⟩ = some (.int .i64 A1) ∧ W.cell? ⟨gt, 2, none⟩ = some (.int .i64 O1) ∧ W.cell? ⟨gt, 3, none⟩ = some (.int .i64 Y1) ∧ W.cell? ⟨gt, 4, none⟩ = some (.int .i64 S1)) w2) := Lib.hid (by
    obtain ⟨_, _, _, _, _, c5, _⟩ := box7_ hc2.box
    have e1 := (hOm.block gl (by rw [hgl]; exact lt_of_heap hl0) (fun hj => by omega)).trans hl1
    have e2 := (hOm.block gt (by rw [hgt]; exact lt_of_heap ht0) (fun hj => by omega)).trans ht1
    obtain ⟨_, l1, _, l3, _⟩ := box5 e1
    obtain ⟨t0, t1, t2, t3, t4⟩ := box5 e2
    exact ⟨c5, l3, t0, t1, t2, t3, t4⟩)
  rw [← hgt, ← hgl]
  clear hb0 hl0 ht0 hl1 ht1 hgl hgt hcd hc2 hOm hbd hml HWP HCW HST hA1 hO1 hY1 hS1 hz0
  refine wp_region_held_drew (S := (fun W : World => W.cell? ⟨S.c, 5, none⟩ = some (.map (some S.m)) ∧ W.cell? ⟨gl, 3, none⟩ = some (.int .i64 X) ∧ W.cell? ⟨gt, 0, none⟩ = some (.int .i64 3) ∧ W.cell? ⟨gt, 1, none⟩ = some (.int .i64 A1) ∧ W.cell? ⟨gt, 2, none⟩ = some (.int .i64 O1) ∧ W.cell? ⟨gt, 3, none⟩ = some (.int .i64 Y1) ∧ W.cell? ⟨gt, 4, none⟩ = some (.int .i64 S1))) (by kernel_rfl) hSS (fun _ => ?_)
  refine wpAnyH_take (i := 0) (oi := ({ dst := Option.some 18, op := Go.Op.move (Go.Operand.tmp 0), type := 28, pos := "decision.go:57", after := #[], guard := Option.none } : Oper)) (v := ?v0x37) rfl (by kernel_rfl) (by kernel_rfl) (by kernel_rfl) (fun _ _ _ h => h) (Or.inl ⟨by rfl, ?hy0x37⟩) hSS ?rest0x37
  case hy0x37 =>
    intro W0 hSw
    obtain ⟨s0, s1, s2, s3, s4, s5, s6⟩ := hSw
    go_simp
    first | done | with_reducible rfl
  try simp only [Act.put, List.setIfInBounds_toArray, List.set_cons_zero, List.set_cons_succ]
  refine wpAnyH_take (i := 1) (oi := ({ dst := Option.some 19, op := Go.Op.nilCheck (Go.Operand.tmp 18), type := 0, pos := "decision.go:57", after := #[{ on := 0, ground := Go.Ground.data }], guard := Option.none } : Oper)) (v := ?v1x38) rfl (by kernel_rfl) (by kernel_rfl) (by kernel_rfl) (fun _ _ _ h => h) (Or.inl ⟨by rfl, ?hy1x38⟩) hSS ?rest1x38
  case hy1x38 =>
    intro W0 hSw
    obtain ⟨s0, s1, s2, s3, s4, s5, s6⟩ := hSw
    go_simp
    first | done | with_reducible rfl
  try simp only [Act.put, List.setIfInBounds_toArray, List.set_cons_zero, List.set_cons_succ]
  refine wpAnyH_take (i := 2) (oi := ({ dst := Option.some 20, op := Go.Op.fieldAddr 63 (Go.Operand.tmp 19) 5, type := 0, pos := "decision.go:57", after := #[{ on := 1, ground := Go.Ground.data }], guard := Option.none } : Oper)) (v := ?v2x39) rfl (by kernel_rfl) (by kernel_rfl) (by kernel_rfl) (fun _ _ _ h => h) (Or.inl ⟨by rfl, ?hy2x39⟩) hSS ?rest2x39
  case hy2x39 =>
    intro W0 hSw
    obtain ⟨s0, s1, s2, s3, s4, s5, s6⟩ := hSw
    go_simp
    first | done | with_reducible rfl
  try simp only [Act.put, List.setIfInBounds_toArray, List.set_cons_zero, List.set_cons_succ]
  refine wpAnyH_take (i := 3) (oi := ({ dst := Option.some 21, op := Go.Op.load 61 (Go.Operand.tmp 20), type := 61, pos := "decision.go:57", after := #[{ on := 2, ground := Go.Ground.data }], guard := Option.none } : Oper)) (v := ?v3x40) rfl (by kernel_rfl) (by kernel_rfl) (by kernel_rfl) (fun _ _ _ h => h) (Or.inl ⟨by rfl, ?hy3x40⟩) hSS ?rest3x40
  case hy3x40 =>
    intro W0 hSw
    obtain ⟨s0, s1, s2, s3, s4, s5, s6⟩ := hSw
    go_simp
    first | done | with_reducible rfl
  try simp only [Act.put, List.setIfInBounds_toArray, List.set_cons_zero, List.set_cons_succ]
  refine wpAnyH_take (i := 4) (oi := ({ dst := Option.some 22, op := Go.Op.fieldAddr 46 (Go.Operand.tmp 4) 3, type := 0, pos := "decision.go:57", after := #[], guard := Option.none } : Oper)) (v := ?v4x41) rfl (by kernel_rfl) (by kernel_rfl) (by kernel_rfl) (fun _ _ _ h => h) (Or.inl ⟨by rfl, ?hy4x41⟩) hSS ?rest4x41
  case hy4x41 =>
    intro W0 hSw
    obtain ⟨s0, s1, s2, s3, s4, s5, s6⟩ := hSw
    go_simp
    first | done | with_reducible rfl
  try simp only [Act.put, List.setIfInBounds_toArray, List.set_cons_zero, List.set_cons_succ]
  refine wpAnyH_take (i := 5) (oi := ({ dst := Option.some 23, op := Go.Op.load 3 (Go.Operand.tmp 22), type := 3, pos := "decision.go:57", after := #[{ on := 4, ground := Go.Ground.data }], guard := Option.none } : Oper)) (v := ?v5x42) rfl (by kernel_rfl) (by kernel_rfl) (by kernel_rfl) (fun _ _ _ h => h) (Or.inl ⟨by rfl, ?hy5x42⟩) hSS ?rest5x42
  case hy5x42 =>
    intro W0 hSw
    obtain ⟨s0, s1, s2, s3, s4, s5, s6⟩ := hSw
    go_simp
    first | done | with_reducible rfl
  try simp only [Act.put, List.setIfInBounds_toArray, List.set_cons_zero, List.set_cons_succ]
  refine wpAnyH_take (i := 6) (oi := ({ dst := Option.some 24, op := Go.Op.load 67 (Go.Operand.tmp 5), type := 67, pos := "decision.go:57", after := #[], guard := Option.none } : Oper)) (v := ?v6x43) rfl (by kernel_rfl) (by kernel_rfl) (by kernel_rfl) (fun _ _ _ h => h) (Or.inl ⟨by rfl, ?hy6x43⟩) hSS ?rest6x43
  case hy6x43 =>
    intro W0 hSw
    obtain ⟨s0, s1, s2, s3, s4, s5, s6⟩ := hSw
    go_simp
    first | done | with_reducible rfl
  try simp only [Act.put, List.setIfInBounds_toArray, List.set_cons_zero, List.set_cons_succ]
  refine wpAnyH_ready (rs := [7]) (by kernel_rfl) (by simp) ?_
  refine AllReadyH.cons (o := ({ dst := Option.none, op := Go.Op.mapUpdate 61 (Go.Operand.tmp 21) (Go.Operand.tmp 23) (Go.Operand.tmp 24), type := 0, pos := "decision.go:57", after := #[{ on := 3, ground := Go.Ground.data }, { on := 5, ground := Go.Ground.data }, { on := 6, ground := Go.Ground.data }, { on := 0, ground := Go.Ground.phase }, { on := 1, ground := Go.Ground.phase }, { on := 2, ground := Go.Ground.phase }, { on := 3, ground := Go.Ground.phase }, { on := 4, ground := Go.Ground.phase }, { on := 5, ground := Go.Ground.phase }, { on := 6, ground := Go.Ground.phase }], guard := Option.none } : Oper)) rfl (fun K0 hK0 => ?_) AllReadyH.nil
  go_simp
  refine hK0.out _ _ hS2.out (fun _ => ?_)
  clear hK0 K0
  try simp only [Act.put, List.setIfInBounds_toArray, List.set_cons_zero, List.set_cons_succ]
  refine wpAnyH_done (by kernel_rfl) ?_ _
  go_wp2_with fail
  refine bodyPost_ret (v := .tuple #[]) (by simp [results, Try.results30, go_sem]) rfl ?_
  exact ⟨rfl, HE.out⟩
set_option maxRecDepth 100000 in
set_option maxHeartbeats 16000000 in
theorem done_last {w : World} {B : Nat} {S : CoS} (h : Co w B S) (t : Int) {f x : Nat} (hf16 : f < 16) (hx : i64ok (x : Int)) {a o : Nat} (ho : o < 65536) (y s : Nat) (hw0 : woB o f = 0) (hroom : S.b + (bytesOf S.rs).length + 905 ≤ 100000) :
    Calls Try.prog 30 #[.pointer (some ⟨S.c, 0, none⟩), .agg #[.int .i64 7, .int .i64 (f : Int), .int .i64 t, .int .i64 (x : Int), .slice none 0 0], .agg #[.int .i64 3, .int .i64 (a : Int), .int .i64 (o : Int), .int .i64 (y : Int), .int .i64 (s : Int)]] w (fun e w' => e = .returned (.tuple #[]) ∧ DnT w B S x w') := by
  have HWP := Lib.hid (fun W => without_any (n := f) ho hf16 W)
  rw [hw0] at HWP
  obtain ⟨X, hX⟩ : ∃ X : Int, X = (x : Int) := ⟨_, rfl⟩
  obtain ⟨L5, hL5⟩ : ∃ L5, L5 = Obj.cells #[.int .i64 7, .int .i64 (f : Int), .int .i64 t, .int .i64 X, .slice none 0 0] 46 := ⟨_, rfl⟩
  obtain ⟨T5, hT5⟩ : ∃ T5, T5 = Obj.cells #[.int .i64 3, .int .i64 (a : Int), .int .i64 (o : Int), .int .i64 (y : Int), .int .i64 (s : Int)] 67 := ⟨_, rfl⟩
  have ht5 := heap_alloc_new (w.alloc L5) T5
  rw [show (w.alloc L5).heap.size = w.heap.size + 1 by simp] at ht5
  rw [hT5] at ht5
  have f2 := frozen_of ht5 2
  rw [hL5] at ht5 f2
  obtain ⟨_, _, z2, _, _⟩ := box5 ht5
  obtain ⟨T6, hT6⟩ : ∃ T6, T6 = Obj.cells #[.int .i64 3, .int .i64 (a : Int), .int .i64 ((0 : Nat) : Int), .int .i64 (y : Int), .int .i64 (s : Int)] 67 := ⟨_, rfl⟩
  obtain ⟨AO, hAO⟩ : ∃ AO, AO = Obj.cells #[.int .i64 X] 3 := ⟨_, rfl⟩
  obtain ⟨W3, hW3⟩ : ∃ W3, W3 = (w.alloc L5).alloc T6 := ⟨_, rfl⟩
  have hb3 : Below w.heap.size w W3 := by rw [hW3]; exact alloc2_below _ _ _
  have hl3 : W3.heap[w.heap.size]? = some L5 := by rw [hW3]; exact ((alloc_below (w.alloc L5) T6).block _ (by simp)).trans (heap_alloc_new w L5)
  have hb4 := alloc_below W3 AO
  have hc4 := h.below (hb3.trans (hb4.mono hb3.size))
  have hl4 := (hb4.block _ (lt_of_heap hl3)).trans hl3
  have hr4 := rd_oneJ W3 X
  rw [← hAO] at hr4
  have HW := Lib.hid (cwrite_any hc4.log hc4.size hc4.lt (box7_ hc4.box).2.1 2 [X] (some ⟨W3.heap.size, 0, none⟩) 1 1 rfl (by omega) (by unfold i64ok; omega) (by intro z hz; simp at hz; subst hz; rw [hX]; exact hx) hr4 hroom)
  have HC4 := Lib.hid hc4
  have HL4 := Lib.hid hl4
  have HLT := Lib.hid h.lt
  have HBW := Lib.hid (hb3.trans (hb4.mono hb3.size))
  have HX := Lib.hid hX
  have HXI := Lib.hid hx
  have HNL : Hid (∀ k, (k = S.q ∨ k = S.p ∨ k = S.g ∨ k = S.d ∨ k = S.m) → k < w.heap.size) := Lib.hid fun k hk => by
    have l1 := h.log.lt
    have l2 := h.log.disk.lt
    have l3 := h.log.disk.glt
    have l4 := h.log.dlt
    have l5 := h.map.lt
    omega
  have hsz : W3.heap.size = w.heap.size + 2 := by rw [hW3]; simp
  rw [hsz] at HW
  rw [hW3] at HW HC4 HL4 HBW
  rw [hL5] at HW HC4 HL4 HBW
  rw [hT6, hAO] at HW HC4 HL4 HBW
  rw [← hX]
  clear h hf16 hx ho hw0 hX hroom hL5 hT5 ht5 hT6 hAO hW3 hb3 hl3 hb4 hc4 hl4 hr4 hsz
  go_enter Try.func30, Try.ntmps30
  go_upto_region 6 with (first
    | (go_at_call 48; refine (HWP.out _).mono ?_; rintro e1 w1 ⟨rfl, rfl⟩)
    | (go_at_call 50; refine HW.out.mono ?_; rintro e1 w1 ⟨rfl, g', d', hw1, hO1, hg1, hd1⟩
       have HC1 := Lib.hid (HC4.out.logged hw1 hO1 hg1 hd1)
       have HO1 := Lib.hid hO1
       have HG1 := Lib.hid (And.intro hg1 hd1)
       clear hw1 hO1 hg1 hd1))
  have hcd := HC1.out.below (drew_below w1)
  obtain ⟨w2, hrun, hm2, hO2⟩ := hcd.map.drop HXI.out
  rw [← HX.out] at hrun
  have hco2 := hcd.mapped hO2 hm2
  have hls : w1.drew.heap[w.heap.size]? = some (.cells #[.int .i64 7, .int .i64 (f : Int), .int .i64 t, .int .i64 X, .slice none 0 0] 46 (0, 0)) := (HO1.out.block w.heap.size (lt_of_heap HL4.out) (fun hk => by have := HNL.out w.heap.size (by omega); omega)).trans HL4.out
  have hls2 := (hO2.block w.heap.size (lt_of_heap hls) (fun hk => by have := HNL.out w.heap.size (.inr (.inr (.inr (.inr hk)))); omega)).trans hls
  have hSS : (fun W : World => W.cell? ⟨S.c, 5, none⟩ = some (.map (some S.m)) ∧ W.cell? ⟨w.heap.size, 3, none⟩ = some (.int .i64 X)) w1.drew := ⟨(box7_ hcd.box).2.2.2.2.2.1, (box5 hls).2.2.2.1⟩
  have hS2 : Hid ((fun W : World => W.cell? ⟨S.c, 5, none⟩ = some (.map (some S.m)) ∧ W.cell? ⟨w.heap.size, 3, none⟩ = some (.int .i64 X)) w2) := Lib.hid ⟨(box7_ hco2.box).2.2.2.2.2.1, (box5 hls2).2.2.2.1⟩
  have HE : Hid (DnT w B S x w2) := Lib.hid ⟨g', d', (by have h9 := hco2; rw [HX.out] at h9; exact h9), by
    refine (((Only.of_below HBW.out).trans HO1.out fun j _ hj => ?_).trans (Only.of_below (K := fun _ => False) (drew_below w1)) fun _ _ h => False.elim h).trans hO2 fun j _ hj => .inr (.inl hj)
    unfold CoK
    rcases hj with hj | hj | hj | hj <;> simp [hj], fun j hj => .inl hj, HG1.out.1.imp id fun h => Nat.le_trans HBW.out.size h, HG1.out.2.imp id fun h => Nat.le_trans HBW.out.size h⟩
  clear hcd hm2 hO2 hco2 hls hls2 z2 f2
  refine wp_region_held_drew (S := (fun W : World => W.cell? ⟨S.c, 5, none⟩ = some (.map (some S.m)) ∧ W.cell? ⟨w.heap.size, 3, none⟩ = some (.int .i64 X))) (by kernel_rfl) hSS (fun _ => ?_)
  refine wpAnyH_take (i := 0) (oi := ({ dst := Option.some 30, op := Go.Op.move (Go.Operand.tmp 0), type := 28, pos := "decision.go:61", after := #[], guard := Option.none } : Oper)) (v := ?v0x44) rfl (by kernel_rfl) (by kernel_rfl) (by kernel_rfl) (fun _ _ _ h => h) (Or.inl ⟨by rfl, ?hy0x44⟩) hSS ?rest0x44
  case hy0x44 =>
    intro W0 hSw
    obtain ⟨s0, s1⟩ := hSw
    go_simp
    first | done | with_reducible rfl
  try simp only [Act.put, List.setIfInBounds_toArray, List.set_cons_zero, List.set_cons_succ]
  refine wpAnyH_take (i := 1) (oi := ({ dst := Option.some 31, op := Go.Op.nilCheck (Go.Operand.tmp 30), type := 0, pos := "decision.go:61", after := #[{ on := 0, ground := Go.Ground.data }], guard := Option.none } : Oper)) (v := ?v1x45) rfl (by kernel_rfl) (by kernel_rfl) (by kernel_rfl) (fun _ _ _ h => h) (Or.inl ⟨by rfl, ?hy1x45⟩) hSS ?rest1x45
  case hy1x45 =>
    intro W0 hSw
    obtain ⟨s0, s1⟩ := hSw
    go_simp
    first | done | with_reducible rfl
  try simp only [Act.put, List.setIfInBounds_toArray, List.set_cons_zero, List.set_cons_succ]
  refine wpAnyH_take (i := 2) (oi := ({ dst := Option.some 32, op := Go.Op.fieldAddr 63 (Go.Operand.tmp 31) 5, type := 0, pos := "decision.go:61", after := #[{ on := 1, ground := Go.Ground.data }], guard := Option.none } : Oper)) (v := ?v2x46) rfl (by kernel_rfl) (by kernel_rfl) (by kernel_rfl) (fun _ _ _ h => h) (Or.inl ⟨by rfl, ?hy2x46⟩) hSS ?rest2x46
  case hy2x46 =>
    intro W0 hSw
    obtain ⟨s0, s1⟩ := hSw
    go_simp
    first | done | with_reducible rfl
  try simp only [Act.put, List.setIfInBounds_toArray, List.set_cons_zero, List.set_cons_succ]
  refine wpAnyH_take (i := 3) (oi := ({ dst := Option.some 33, op := Go.Op.load 61 (Go.Operand.tmp 32), type := 61, pos := "decision.go:61", after := #[{ on := 2, ground := Go.Ground.data }], guard := Option.none } : Oper)) (v := ?v3x47) rfl (by kernel_rfl) (by kernel_rfl) (by kernel_rfl) (fun _ _ _ h => h) (Or.inl ⟨by rfl, ?hy3x47⟩) hSS ?rest3x47
  case hy3x47 =>
    intro W0 hSw
    obtain ⟨s0, s1⟩ := hSw
    go_simp
    first | done | with_reducible rfl
  try simp only [Act.put, List.setIfInBounds_toArray, List.set_cons_zero, List.set_cons_succ]
  refine wpAnyH_take (i := 4) (oi := ({ dst := Option.some 34, op := Go.Op.fieldAddr 46 (Go.Operand.tmp 4) 3, type := 0, pos := "decision.go:61", after := #[], guard := Option.none } : Oper)) (v := ?v4x48) rfl (by kernel_rfl) (by kernel_rfl) (by kernel_rfl) (fun _ _ _ h => h) (Or.inl ⟨by rfl, ?hy4x48⟩) hSS ?rest4x48
  case hy4x48 =>
    intro W0 hSw
    obtain ⟨s0, s1⟩ := hSw
    go_simp
    first | done | with_reducible rfl
  try simp only [Act.put, List.setIfInBounds_toArray, List.set_cons_zero, List.set_cons_succ]
  refine wpAnyH_take (i := 5) (oi := ({ dst := Option.some 35, op := Go.Op.load 3 (Go.Operand.tmp 34), type := 3, pos := "decision.go:61", after := #[{ on := 4, ground := Go.Ground.data }], guard := Option.none } : Oper)) (v := ?v5x49) rfl (by kernel_rfl) (by kernel_rfl) (by kernel_rfl) (fun _ _ _ h => h) (Or.inl ⟨by rfl, ?hy5x49⟩) hSS ?rest5x49
  case hy5x49 =>
    intro W0 hSw
    obtain ⟨s0, s1⟩ := hSw
    go_simp
    first | done | with_reducible rfl
  try simp only [Act.put, List.setIfInBounds_toArray, List.set_cons_zero, List.set_cons_succ]
  refine wpAnyH_ready (rs := [6]) (by kernel_rfl) (by simp) ?_
  refine AllReadyH.cons (o := ({ dst := Option.none, op := Go.Op.call { callee := Go.Callee.builtin Go.Builtin.delete, args := #[Go.Operand.tmp 33, Go.Operand.tmp 35], argTypes := #[61, 3] }, type := 0, pos := "decision.go:61", after := #[{ on := 3, ground := Go.Ground.data }, { on := 5, ground := Go.Ground.data }], guard := Option.none } : Oper)) rfl (fun K0 hK0 => ?_) AllReadyH.nil
  go_simp
  refine hK0.out _ _ hS2.out (fun _ => ?_)
  clear hK0 K0
  try simp only [Act.put, List.setIfInBounds_toArray, List.set_cons_zero, List.set_cons_succ]
  refine wpAnyH_done (by kernel_rfl) ?_ _
  go_wp2_with fail
  refine bodyPost_end (v := .tuple #[]) (by simp [results, Try.results30, go_sem]) rfl ?_
  exact ⟨rfl, HE.out⟩
set_option maxRecDepth 100000 in
set_option maxHeartbeats 16000000 in
theorem hear_dom {w : World} {B : Nat} {S : CoS} (h : Co w B S) {f x : Nat} (hf16 : f < 16) (hx : x < 1099511627776) (hxn : x % 16 = S.node) {e : Te} (he : findT S.T x = some e) (hes : e.s = 3) (ho : e.o < 65536) (hw0 : woB e.o f ≠ 0) (hT : S.T.length < 1000) :
    Calls Try.prog 14 #[.pointer (some ⟨S.c, 0, none⟩), .agg #[.int .i64 7, .int .i64 (f : Int), .int .i64 (S.node : Int), .int .i64 (x : Int), .slice none 0 0]] w (fun e1 w' => e1 = .returned (.int .i64 0) ∧ LtT w B S (putT S.T ⟨x, 3, e.a, woB e.o f, e.y, e.t⟩) [] w') := by
  have hxi : i64ok (x : Int) := by unfold i64ok; omega
  obtain ⟨k, hk⟩ : ∃ k : Int, k = 7 := ⟨_, rfl⟩
  have HRT := Lib.hid (fun W => rightL_any k (f : Int) (S.node : Int) (x : Int) [] none 0 0 rfl (by omega) W (RdI.nil _ _ _))
  rw [right_of (by omega) hf16 h.nod (by omega)] at HRT
  obtain ⟨X, hX⟩ : ∃ X : Int, X = (x : Int) := ⟨_, rfl⟩
  have hX16 : X % 16 = (S.node : Int) := by omega
  have hX17 : X.tmod 16 = (S.node : Int) := by rw [Int.tmod_eq_emod_of_nonneg (by omega)]; exact hX16
  have hX0 : 0 ≤ X := by omega
  have hnn : ((S.node : Int) != (S.node : Int)) = false := by simp
  obtain ⟨gl, hgl⟩ : ∃ gl, gl = w.heap.size := ⟨_, rfl⟩
  obtain ⟨L5, hL5⟩ : ∃ L5, L5 = Obj.cells #[.int .i64 k, .int .i64 (f : Int), .int .i64 (S.node : Int), .int .i64 X, .slice none 0 0] 46 := ⟨_, rfl⟩
  have hb0 := alloc_below w L5
  have hl5 := heap_alloc_new w L5
  obtain ⟨W0, hW0⟩ : ∃ W0, W0 = w.alloc L5 := ⟨_, rfl⟩
  rw [← hW0] at hb0 hl5
  rw [← hgl, hL5] at hl5
  have hc0 := h.below hb0
  have HB0 := Lib.hid hb0
  have HS3 : Hid (∀ W, Below W0.heap.size W0 W → (fun W : World => W.cell? ⟨gl, 0, none⟩ = some (.int .i64 k) ∧ W.cell? ⟨gl, 1, none⟩ = some (.int .i64 (f : Int)) ∧ W.cell? ⟨gl, 2, none⟩ = some (.int .i64 (S.node : Int)) ∧ W.cell? ⟨gl, 3, none⟩ = some (.int .i64 X) ∧ W.cell? ⟨gl, 4, none⟩ = some (.slice none 0 0) ∧ W.cell? ⟨S.c, 0, none⟩ = some (.int .i64 (S.node : Int))) W) := Lib.hid fun W hb => by
    obtain ⟨l0, l1, l2, l3, l4⟩ := box5 ((hb.block gl (lt_of_heap hl5)).trans hl5)
    obtain ⟨d0, _⟩ := box7_ (hc0.below hb).box
    exact ⟨l0, l1, l2, l3, l4, d0⟩
  obtain ⟨n, s0, a, o, y0, t0⟩ := e
  simp only at hes ho hw0 ⊢
  subst hes
  obtain ⟨y, hy⟩ : ∃ y : Int, y = (y0 : Int) := ⟨_, rfl⟩
  obtain ⟨s, hs⟩ : ∃ s : Int, s = (t0 : Int) := ⟨_, rfl⟩
  have HLK : Hid (∀ W, Below W0.heap.size W0 W → (Instr.lookup 61 (.map (some S.m)) (.int .i64 X) false).run Try.prog W = .ok (.agg #[.int .i64 3, .int .i64 (a : Int), .int .i64 (o : Int), .int .i64 y, .int .i64 s]) W) := Lib.hid fun W hb => by
    have h1 := (hc0.below hb).map.look hxi
    unfold stT at h1
    rw [hX]
    simp only [he, Te.v, teV] at h1
    rw [hy, hs]
    exact h1
  have HVN : Hid (∀ W, Below W0.heap.size W0 W → ∀ kk : Int, kk = 7 → Calls Try.prog 30 #[.pointer (some ⟨S.c, 0, none⟩), .agg #[.int .i64 kk, .int .i64 (f : Int), .int .i64 (S.node : Int), .int .i64 (x : Int), .slice none 0 0], .agg #[.int .i64 3, .int .i64 (a : Int), .int .i64 (o : Int), .int .i64 y, .int .i64 s]] W (fun e1 w1 => e1 = .returned (.tuple #[]) ∧ LtT W B S (putT S.T ⟨x, 3, a, woB o f, y0, t0⟩) [] w1)) := Lib.hid fun W hb kk hkk => by
    rw [hkk]
    rw [hy, hs]
    exact done_more (hc0.below hb) (S.node : Int) hf16 hxi ho y0 t0 hw0 hT
  clear he hy hs ho hw0 hT
  rw [← hX] at HRT
  rw [← hX, ← hk]
  have HC := Lib.hid (closed_any hc0)
  rw [hW0, hL5] at HC
  have HW0 := Lib.hid hW0
  rw [hL5] at HW0
  have HGL := Lib.hid hgl
  have HXX := Lib.hid hX
  have HCW : Hid (∀ W, Below W0.heap.size W0 W → Co W B S) := Lib.hid fun W hb => hc0.below hb
  have HL5 : Hid (∀ W, Below W0.heap.size W0 W → W.heap[gl]? = some (.cells #[.int .i64 k, .int .i64 (f : Int), .int .i64 (S.node : Int), .int .i64 X, .slice none 0 0] 46 (0, 0))) := Lib.hid fun W hb => (hb.block gl (lt_of_heap hl5)).trans hl5
  obtain ⟨_, _, _, _, _, c5, _⟩ := box7_ hc0.box
  have HKK := Lib.hid hk
  clear h hk hf16 hx hxn hxi hX hb0 hl5 hc0 hW0 hL5 hgl hX16
  go_enter Try.func14, Try.ntmps14
  go_upto_region 3 with (go_at_call 24; refine HC.out.mono ?_; rintro e1 w1 ⟨rfl, rfl⟩)
  rw [← HW0.out]
  have hSS := HS3.out _ (drew_below W0)
  rw [← HGL.out]
  refine wp_region_held_drew (S := (fun W : World => W.cell? ⟨gl, 0, none⟩ = some (.int .i64 k) ∧ W.cell? ⟨gl, 1, none⟩ = some (.int .i64 (f : Int)) ∧ W.cell? ⟨gl, 2, none⟩ = some (.int .i64 (S.node : Int)) ∧ W.cell? ⟨gl, 3, none⟩ = some (.int .i64 X) ∧ W.cell? ⟨gl, 4, none⟩ = some (.slice none 0 0) ∧ W.cell? ⟨S.c, 0, none⟩ = some (.int .i64 (S.node : Int)))) (by kernel_rfl) hSS (fun _ => ?_)
  refine wpAnyH_take (i := 0) (oi := ({ dst := Option.some 10, op := Go.Op.load 46 (Go.Operand.tmp 3), type := 46, pos := "coordinator.go:83", after := #[], guard := Option.none } : Oper)) (v := ?v0x8) rfl (by kernel_rfl) (by kernel_rfl) (by kernel_rfl) (fun _ _ _ h => h) (Or.inl ⟨by rfl, ?hy0x8⟩) hSS ?rest0x8
  case hy0x8 =>
    intro W0 hSw
    obtain ⟨s0, s1, s2, s3, s4, s5⟩ := hSw
    go_simp
    first | done | with_reducible rfl
  try simp only [Act.put, List.setIfInBounds_toArray, List.set_cons_zero, List.set_cons_succ]
  refine wpAnyH_ready (rs := [1]) (by kernel_rfl) (by simp) ?_
  refine AllReadyH.cons (o := ({ dst := Option.some 11, op := Go.Op.call { callee := Go.Callee.value (Go.Operand.func 25), args := #[Go.Operand.tmp 10], argTypes := #[46] }, type := 4, pos := "coordinator.go:83", after := #[{ on := 0, ground := Go.Ground.data }], guard := Option.none } : Oper)) rfl (fun K0 hK0 => ?_) AllReadyH.nil
  go_simp
  go_at_call 25
  refine (HRT.out _).mono ?_
  rintro e1 w1 ⟨rfl, hb1⟩
  have HB1 := Lib.hid ((drew_below W0).trans (Below.mono hb1 (Nat.le_refl _)))
  have hSS := HS3.out _ HB1.out
  clear hb1
  try go_wp2_with fail
  refine hK0.out _ _ hSS (fun _ => ?_)
  clear hK0 K0
  try simp only [Act.put, List.setIfInBounds_toArray, List.set_cons_zero, List.set_cons_succ]
  refine wpAnyH_take (i := 2) (oi := ({ dst := Option.some 12, op := Go.Op.unOp Go.UnOp.not 4 (Go.Operand.tmp 11), type := 4, pos := "coordinator.go:83", after := #[{ on := 1, ground := Go.Ground.data }], guard := Option.none } : Oper)) (v := ?v2x9) rfl (by kernel_rfl) (by kernel_rfl) (by kernel_rfl) (fun _ _ _ h => h) (Or.inl ⟨by rfl, ?hy2x9⟩) hSS ?rest2x9
  case hy2x9 =>
    intro W0 hSw
    obtain ⟨s0, s1, s2, s3, s4, s5⟩ := hSw
    go_simp
    first | done | with_reducible rfl
  try simp only [Act.put, List.setIfInBounds_toArray, List.set_cons_zero, List.set_cons_succ]
  refine wpAnyH_take (i := 3) (oi := ({ dst := Option.some 13, op := Go.Op.move (Go.Operand.tmp 12), type := 4, pos := "coordinator.go:83", after := #[{ on := 2, ground := Go.Ground.data }, { on := 1, ground := Go.Ground.chain }], guard := Option.none } : Oper)) (v := ?v3x10) rfl (by kernel_rfl) (by kernel_rfl) (by kernel_rfl) (fun _ _ _ h => h) (Or.inl ⟨by rfl, ?hy3x10⟩) hSS ?rest3x10
  case hy3x10 =>
    intro W0 hSw
    obtain ⟨s0, s1, s2, s3, s4, s5⟩ := hSw
    go_simp
    first | done | with_reducible rfl
  try simp only [Act.put, List.setIfInBounds_toArray, List.set_cons_zero, List.set_cons_succ]
  refine wpAnyH_take (i := 4) (oi := ({ dst := Option.some 14, op := Go.Op.fieldAddr 46 (Go.Operand.tmp 3) 2, type := 0, pos := "coordinator.go:83", after := #[{ on := 3, ground := Go.Ground.guard }], guard := Option.some (3, Bool.false) } : Oper)) (v := ?v4x11) rfl (by kernel_rfl) (by kernel_rfl) (by kernel_rfl) (fun _ _ _ h => h) (Or.inl ⟨by rfl, ?hy4x11⟩) hSS ?rest4x11
  case hy4x11 =>
    intro W0 hSw
    obtain ⟨s0, s1, s2, s3, s4, s5⟩ := hSw
    go_simp
    first | done | with_reducible rfl
  try simp only [Act.put, List.setIfInBounds_toArray, List.set_cons_zero, List.set_cons_succ]
  refine wpAnyH_take (i := 5) (oi := ({ dst := Option.some 15, op := Go.Op.load 3 (Go.Operand.tmp 14), type := 3, pos := "coordinator.go:83", after := #[{ on := 4, ground := Go.Ground.data }, { on := 3, ground := Go.Ground.guard }], guard := Option.some (3, Bool.false) } : Oper)) (v := ?v5x12) rfl (by kernel_rfl) (by kernel_rfl) (by kernel_rfl) (fun _ _ _ h => h) (Or.inl ⟨by rfl, ?hy5x12⟩) hSS ?rest5x12
  case hy5x12 =>
    intro W0 hSw
    obtain ⟨s0, s1, s2, s3, s4, s5⟩ := hSw
    go_simp
    first | done | with_reducible rfl
  try simp only [Act.put, List.setIfInBounds_toArray, List.set_cons_zero, List.set_cons_succ]
  refine wpAnyH_take (i := 6) (oi := ({ dst := Option.some 16, op := Go.Op.move (Go.Operand.tmp 0), type := 28, pos := "coordinator.go:83", after := #[{ on := 3, ground := Go.Ground.guard }], guard := Option.some (3, Bool.false) } : Oper)) (v := ?v6x13) rfl (by kernel_rfl) (by kernel_rfl) (by kernel_rfl) (fun _ _ _ h => h) (Or.inl ⟨by rfl, ?hy6x13⟩) hSS ?rest6x13
  case hy6x13 =>
    intro W0 hSw
    obtain ⟨s0, s1, s2, s3, s4, s5⟩ := hSw
    go_simp
    first | done | with_reducible rfl
  try simp only [Act.put, List.setIfInBounds_toArray, List.set_cons_zero, List.set_cons_succ]
  refine wpAnyH_take (i := 7) (oi := ({ dst := Option.some 17, op := Go.Op.nilCheck (Go.Operand.tmp 16), type := 0, pos := "coordinator.go:83", after := #[{ on := 6, ground := Go.Ground.data }, { on := 3, ground := Go.Ground.guard }], guard := Option.some (3, Bool.false) } : Oper)) (v := ?v7x14) rfl (by kernel_rfl) (by kernel_rfl) (by kernel_rfl) (fun _ _ _ h => h) (Or.inl ⟨by rfl, ?hy7x14⟩) hSS ?rest7x14
  case hy7x14 =>
    intro W0 hSw
    obtain ⟨s0, s1, s2, s3, s4, s5⟩ := hSw
    go_simp
    first | done | with_reducible rfl
  try simp only [Act.put, List.setIfInBounds_toArray, List.set_cons_zero, List.set_cons_succ]
  refine wpAnyH_take (i := 8) (oi := ({ dst := Option.some 18, op := Go.Op.fieldAddr 63 (Go.Operand.tmp 17) 0, type := 0, pos := "coordinator.go:83", after := #[{ on := 7, ground := Go.Ground.data }, { on := 3, ground := Go.Ground.guard }], guard := Option.some (3, Bool.false) } : Oper)) (v := ?v8x15) rfl (by kernel_rfl) (by kernel_rfl) (by kernel_rfl) (fun _ _ _ h => h) (Or.inl ⟨by rfl, ?hy8x15⟩) hSS ?rest8x15
  case hy8x15 =>
    intro W0 hSw
    obtain ⟨s0, s1, s2, s3, s4, s5⟩ := hSw
    go_simp
    first | done | with_reducible rfl
  try simp only [Act.put, List.setIfInBounds_toArray, List.set_cons_zero, List.set_cons_succ]
  refine wpAnyH_take (i := 9) (oi := ({ dst := Option.some 19, op := Go.Op.load 3 (Go.Operand.tmp 18), type := 3, pos := "coordinator.go:83", after := #[{ on := 8, ground := Go.Ground.data }, { on := 3, ground := Go.Ground.guard }], guard := Option.some (3, Bool.false) } : Oper)) (v := ?v9x16) rfl (by kernel_rfl) (by kernel_rfl) (by kernel_rfl) (fun _ _ _ h => h) (Or.inl ⟨by rfl, ?hy9x16⟩) hSS ?rest9x16
  case hy9x16 =>
    intro W0 hSw
    obtain ⟨s0, s1, s2, s3, s4, s5⟩ := hSw
    go_simp
    first | done | with_reducible rfl
  try simp only [Act.put, List.setIfInBounds_toArray, List.set_cons_zero, List.set_cons_succ]
  refine wpAnyH_take (i := 10) (oi := ({ dst := Option.some 20, op := Go.Op.binOp Go.BinOp.neq 3 (Go.Operand.tmp 15) (Go.Operand.tmp 19) 3, type := 4, pos := "coordinator.go:83", after := #[{ on := 5, ground := Go.Ground.data }, { on := 9, ground := Go.Ground.data }, { on := 3, ground := Go.Ground.guard }], guard := Option.some (3, Bool.false) } : Oper)) (v := ?v10x17) rfl (by kernel_rfl) (by kernel_rfl) (by kernel_rfl) (fun _ _ _ h => h) (Or.inl ⟨by rfl, ?hy10x17⟩) hSS ?rest10x17
  case hy10x17 =>
    intro W0 hSw
    obtain ⟨s0, s1, s2, s3, s4, s5⟩ := hSw
    go_simp
    first | done | with_reducible rfl
  try simp only [Act.put, List.setIfInBounds_toArray, List.set_cons_zero, List.set_cons_succ]
  refine wpAnyH_take (i := 11) (oi := ({ dst := Option.some 21, op := Go.Op.pick (Go.Operand.tmp 13) (Go.Operand.const (Go.Value.bool Bool.true)) (Go.Operand.tmp 20), type := 4, pos := "coordinator.go:83", after := #[{ on := 3, ground := Go.Ground.data }, { on := 10, ground := Go.Ground.data }], guard := Option.none } : Oper)) (v := ?v11x18) rfl (by kernel_rfl) (by kernel_rfl) (by kernel_rfl) (fun _ _ _ h => h) (Or.inl ⟨by rfl, ?hy11x18⟩) hSS ?rest11x18
  case hy11x18 =>
    intro W0 hSw
    obtain ⟨s0, s1, s2, s3, s4, s5⟩ := hSw
    go_simp
    first | done | with_reducible rfl
  try simp only [Act.put, List.setIfInBounds_toArray, List.set_cons_zero, List.set_cons_succ]
  refine wpAnyH_take (i := 12) (oi := ({ dst := Option.some 22, op := Go.Op.move (Go.Operand.tmp 21), type := 4, pos := "coordinator.go:83", after := #[{ on := 11, ground := Go.Ground.data }, { on := 3, ground := Go.Ground.chain }], guard := Option.none } : Oper)) (v := ?v12x19) rfl (by kernel_rfl) (by kernel_rfl) (by kernel_rfl) (fun _ _ _ h => h) (Or.inl ⟨by rfl, ?hy12x19⟩) hSS ?rest12x19
  case hy12x19 =>
    intro W0 hSw
    obtain ⟨s0, s1, s2, s3, s4, s5⟩ := hSw
    go_simp
    first | done | with_reducible rfl
  try simp only [Act.put, List.setIfInBounds_toArray, List.set_cons_zero, List.set_cons_succ]
  refine wpAnyH_take (i := 13) (oi := ({ dst := Option.some 23, op := Go.Op.fieldAddr 46 (Go.Operand.tmp 3) 3, type := 0, pos := "coordinator.go:83", after := #[{ on := 12, ground := Go.Ground.guard }], guard := Option.some (12, Bool.false) } : Oper)) (v := ?v13x20) rfl (by kernel_rfl) (by kernel_rfl) (by kernel_rfl) (fun _ _ _ h => h) (Or.inl ⟨by rfl, ?hy13x20⟩) hSS ?rest13x20
  case hy13x20 =>
    intro W0 hSw
    obtain ⟨s0, s1, s2, s3, s4, s5⟩ := hSw
    go_simp
    first | done | with_reducible rfl
  try simp only [Act.put, List.setIfInBounds_toArray, List.set_cons_zero, List.set_cons_succ]
  refine wpAnyH_take (i := 14) (oi := ({ dst := Option.some 24, op := Go.Op.load 3 (Go.Operand.tmp 23), type := 3, pos := "coordinator.go:83", after := #[{ on := 13, ground := Go.Ground.data }, { on := 12, ground := Go.Ground.guard }], guard := Option.some (12, Bool.false) } : Oper)) (v := ?v14x21) rfl (by kernel_rfl) (by kernel_rfl) (by kernel_rfl) (fun _ _ _ h => h) (Or.inl ⟨by rfl, ?hy14x21⟩) hSS ?rest14x21
  case hy14x21 =>
    intro W0 hSw
    obtain ⟨s0, s1, s2, s3, s4, s5⟩ := hSw
    go_simp
    first | done | with_reducible rfl
  try simp only [Act.put, List.setIfInBounds_toArray, List.set_cons_zero, List.set_cons_succ]
  refine wpAnyH_take (i := 15) (oi := ({ dst := Option.some 25, op := Go.Op.binOp Go.BinOp.rem 3 (Go.Operand.tmp 24) (Go.Operand.const (Go.Value.int Go.IntKind.i64 16)) 3, type := 3, pos := "coordinator.go:83", after := #[{ on := 14, ground := Go.Ground.data }, { on := 12, ground := Go.Ground.guard }], guard := Option.some (12, Bool.false) } : Oper)) (v := ?v15x22) rfl (by kernel_rfl) (by kernel_rfl) (by kernel_rfl) (fun _ _ _ h => h) (Or.inl ⟨by rfl, ?hy15x22⟩) hSS ?rest15x22
  case hy15x22 =>
    intro W0 hSw
    obtain ⟨s0, s1, s2, s3, s4, s5⟩ := hSw
    go_simp
    first | done | with_reducible rfl
  try simp only [Act.put, List.setIfInBounds_toArray, List.set_cons_zero, List.set_cons_succ]
  refine wpAnyH_take (i := 16) (oi := ({ dst := Option.some 26, op := Go.Op.move (Go.Operand.tmp 0), type := 28, pos := "coordinator.go:83", after := #[{ on := 12, ground := Go.Ground.guard }], guard := Option.some (12, Bool.false) } : Oper)) (v := ?v16x23) rfl (by kernel_rfl) (by kernel_rfl) (by kernel_rfl) (fun _ _ _ h => h) (Or.inl ⟨by rfl, ?hy16x23⟩) hSS ?rest16x23
  case hy16x23 =>
    intro W0 hSw
    obtain ⟨s0, s1, s2, s3, s4, s5⟩ := hSw
    go_simp
    first | done | with_reducible rfl
  try simp only [Act.put, List.setIfInBounds_toArray, List.set_cons_zero, List.set_cons_succ]
  refine wpAnyH_take (i := 17) (oi := ({ dst := Option.some 27, op := Go.Op.nilCheck (Go.Operand.tmp 26), type := 0, pos := "coordinator.go:83", after := #[{ on := 16, ground := Go.Ground.data }, { on := 12, ground := Go.Ground.guard }], guard := Option.some (12, Bool.false) } : Oper)) (v := ?v17x24) rfl (by kernel_rfl) (by kernel_rfl) (by kernel_rfl) (fun _ _ _ h => h) (Or.inl ⟨by rfl, ?hy17x24⟩) hSS ?rest17x24
  case hy17x24 =>
    intro W0 hSw
    obtain ⟨s0, s1, s2, s3, s4, s5⟩ := hSw
    go_simp
    first | done | with_reducible rfl
  try simp only [Act.put, List.setIfInBounds_toArray, List.set_cons_zero, List.set_cons_succ]
  refine wpAnyH_take (i := 18) (oi := ({ dst := Option.some 28, op := Go.Op.fieldAddr 63 (Go.Operand.tmp 27) 0, type := 0, pos := "coordinator.go:83", after := #[{ on := 17, ground := Go.Ground.data }, { on := 12, ground := Go.Ground.guard }], guard := Option.some (12, Bool.false) } : Oper)) (v := ?v18x25) rfl (by kernel_rfl) (by kernel_rfl) (by kernel_rfl) (fun _ _ _ h => h) (Or.inl ⟨by rfl, ?hy18x25⟩) hSS ?rest18x25
  case hy18x25 =>
    intro W0 hSw
    obtain ⟨s0, s1, s2, s3, s4, s5⟩ := hSw
    go_simp
    first | done | with_reducible rfl
  try simp only [Act.put, List.setIfInBounds_toArray, List.set_cons_zero, List.set_cons_succ]
  refine wpAnyH_take (i := 19) (oi := ({ dst := Option.some 29, op := Go.Op.load 3 (Go.Operand.tmp 28), type := 3, pos := "coordinator.go:83", after := #[{ on := 18, ground := Go.Ground.data }, { on := 12, ground := Go.Ground.guard }], guard := Option.some (12, Bool.false) } : Oper)) (v := ?v19x26) rfl (by kernel_rfl) (by kernel_rfl) (by kernel_rfl) (fun _ _ _ h => h) (Or.inl ⟨by rfl, ?hy19x26⟩) hSS ?rest19x26
  case hy19x26 =>
    intro W0 hSw
    obtain ⟨s0, s1, s2, s3, s4, s5⟩ := hSw
    go_simp
    first | done | with_reducible rfl
  try simp only [Act.put, List.setIfInBounds_toArray, List.set_cons_zero, List.set_cons_succ]
  refine wpAnyH_take (i := 20) (oi := ({ dst := Option.some 30, op := Go.Op.binOp Go.BinOp.neq 3 (Go.Operand.tmp 25) (Go.Operand.tmp 29) 3, type := 4, pos := "coordinator.go:83", after := #[{ on := 15, ground := Go.Ground.data }, { on := 19, ground := Go.Ground.data }, { on := 12, ground := Go.Ground.guard }], guard := Option.some (12, Bool.false) } : Oper)) (v := ?v20x27) rfl (by kernel_rfl) (by kernel_rfl) (by kernel_rfl) (fun _ _ _ h => h) (Or.inl ⟨by rfl, ?hy20x27⟩) hSS ?rest20x27
  case hy20x27 =>
    intro W0 hSw
    obtain ⟨s0, s1, s2, s3, s4, s5⟩ := hSw
    go_simp
    first | done | with_reducible rfl
  try simp only [Act.put, List.setIfInBounds_toArray, List.set_cons_zero, List.set_cons_succ]
  refine wpAnyH_take (i := 21) (oi := ({ dst := Option.some 31, op := Go.Op.pick (Go.Operand.tmp 22) (Go.Operand.const (Go.Value.bool Bool.true)) (Go.Operand.tmp 30), type := 4, pos := "coordinator.go:83", after := #[{ on := 12, ground := Go.Ground.data }, { on := 20, ground := Go.Ground.data }], guard := Option.none } : Oper)) (v := ?v21x28) rfl (by kernel_rfl) (by kernel_rfl) (by kernel_rfl) (fun _ _ _ h => h) (Or.inl ⟨by rfl, ?hy21x28⟩) hSS ?rest21x28
  case hy21x28 =>
    intro W0 hSw
    obtain ⟨s0, s1, s2, s3, s4, s5⟩ := hSw
    go_simp
    first | done | with_reducible rfl
  try simp only [Act.put, List.setIfInBounds_toArray, List.set_cons_zero, List.set_cons_succ]
  refine wpAnyH_take (i := 22) (oi := ({ dst := Option.some 9, op := Go.Op.assign (Go.Operand.tmp 31), type := 4, pos := "coordinator.go:83", after := #[{ on := 21, ground := Go.Ground.data }, { on := 12, ground := Go.Ground.chain }], guard := Option.none } : Oper)) (v := ?v22x29) rfl (by kernel_rfl) (by kernel_rfl) (by kernel_rfl) (fun _ _ _ h => h) (Or.inl ⟨by rfl, ?hy22x29⟩) hSS ?rest22x29
  case hy22x29 =>
    intro W0 hSw
    obtain ⟨s0, s1, s2, s3, s4, s5⟩ := hSw
    go_simp
    first | done | with_reducible rfl
  try simp only [Act.put, List.setIfInBounds_toArray, List.set_cons_zero, List.set_cons_succ]
  refine wpAnyH_done (by kernel_rfl) ?_ _
  go_upto_region 5 with fail
  have e2 : (k == 2) = false := by rw [HKK.out]; rfl
  have e3 : (k == 3) = false := by rw [HKK.out]; rfl
  have e4 : (k == 4) = false := by rw [HKK.out]; rfl
  have e7 : (k == 7) = true := by rw [HKK.out]; rfl
  have e8 : (k == 8) = false := by rw [HKK.out]; rfl
  have HS5 : Hid (∀ W, Below W0.heap.size W0 W → (fun W : World => W.cell? ⟨S.c, 5, none⟩ = some (.map (some S.m)) ∧ W.cell? ⟨gl, 3, none⟩ = some (.int .i64 X) ∧ (Instr.lookup 61 (.map (some S.m)) (.int .i64 X) false).run Try.prog W = .ok (.agg #[.int .i64 3, .int .i64 (a : Int), .int .i64 (o : Int), .int .i64 y, .int .i64 s]) W) W) := Lib.hid fun W hb => by
    obtain ⟨_, _, _, _, _, d5, _⟩ := box7_ (HCW.out W hb).box
    obtain ⟨_, _, _, l3, _⟩ := box5 (HL5.out W hb)
    exact ⟨d5, l3, HLK.out W hb⟩
  have hS5 := HS5.out _ (HB1.out.trans ((drew_below w1).mono HB1.out.size))
  clear c5
  refine wp_region_held_drew (S := (fun W : World => W.cell? ⟨S.c, 5, none⟩ = some (.map (some S.m)) ∧ W.cell? ⟨gl, 3, none⟩ = some (.int .i64 X) ∧ (Instr.lookup 61 (.map (some S.m)) (.int .i64 X) false).run Try.prog W = .ok (.agg #[.int .i64 3, .int .i64 (a : Int), .int .i64 (o : Int), .int .i64 y, .int .i64 s]) W)) (by kernel_rfl) hS5 (fun _ => ?_)
  refine wpAnyH_take (i := 0) (oi := ({ dst := Option.some 32, op := Go.Op.move (Go.Operand.tmp 0), type := 28, pos := "coordinator.go:86", after := #[], guard := Option.none } : Oper)) (v := ?v0x30) rfl (by kernel_rfl) (by kernel_rfl) (by kernel_rfl) (fun _ _ _ h => h) (Or.inl ⟨by rfl, ?hy0x30⟩) hS5 ?rest0x30
  case hy0x30 =>
    intro W0 hSw
    obtain ⟨s0, s1, s2⟩ := hSw
    go_simp
    first | done | with_reducible rfl
  try simp only [Act.put, List.setIfInBounds_toArray, List.set_cons_zero, List.set_cons_succ]
  refine wpAnyH_take (i := 1) (oi := ({ dst := Option.some 33, op := Go.Op.nilCheck (Go.Operand.tmp 32), type := 0, pos := "coordinator.go:86", after := #[{ on := 0, ground := Go.Ground.data }], guard := Option.none } : Oper)) (v := ?v1x31) rfl (by kernel_rfl) (by kernel_rfl) (by kernel_rfl) (fun _ _ _ h => h) (Or.inl ⟨by rfl, ?hy1x31⟩) hS5 ?rest1x31
  case hy1x31 =>
    intro W0 hSw
    obtain ⟨s0, s1, s2⟩ := hSw
    go_simp
    first | done | with_reducible rfl
  try simp only [Act.put, List.setIfInBounds_toArray, List.set_cons_zero, List.set_cons_succ]
  refine wpAnyH_take (i := 2) (oi := ({ dst := Option.some 34, op := Go.Op.fieldAddr 63 (Go.Operand.tmp 33) 5, type := 0, pos := "coordinator.go:86", after := #[{ on := 1, ground := Go.Ground.data }], guard := Option.none } : Oper)) (v := ?v2x32) rfl (by kernel_rfl) (by kernel_rfl) (by kernel_rfl) (fun _ _ _ h => h) (Or.inl ⟨by rfl, ?hy2x32⟩) hS5 ?rest2x32
  case hy2x32 =>
    intro W0 hSw
    obtain ⟨s0, s1, s2⟩ := hSw
    go_simp
    first | done | with_reducible rfl
  try simp only [Act.put, List.setIfInBounds_toArray, List.set_cons_zero, List.set_cons_succ]
  refine wpAnyH_take (i := 3) (oi := ({ dst := Option.some 35, op := Go.Op.load 61 (Go.Operand.tmp 34), type := 61, pos := "coordinator.go:86", after := #[{ on := 2, ground := Go.Ground.data }], guard := Option.none } : Oper)) (v := ?v3x33) rfl (by kernel_rfl) (by kernel_rfl) (by kernel_rfl) (fun _ _ _ h => h) (Or.inl ⟨by rfl, ?hy3x33⟩) hS5 ?rest3x33
  case hy3x33 =>
    intro W0 hSw
    obtain ⟨s0, s1, s2⟩ := hSw
    go_simp
    first | done | with_reducible rfl
  try simp only [Act.put, List.setIfInBounds_toArray, List.set_cons_zero, List.set_cons_succ]
  refine wpAnyH_take (i := 4) (oi := ({ dst := Option.some 36, op := Go.Op.fieldAddr 46 (Go.Operand.tmp 3) 3, type := 0, pos := "coordinator.go:86", after := #[], guard := Option.none } : Oper)) (v := ?v4x34) rfl (by kernel_rfl) (by kernel_rfl) (by kernel_rfl) (fun _ _ _ h => h) (Or.inl ⟨by rfl, ?hy4x34⟩) hS5 ?rest4x34
  case hy4x34 =>
    intro W0 hSw
    obtain ⟨s0, s1, s2⟩ := hSw
    go_simp
    first | done | with_reducible rfl
  try simp only [Act.put, List.setIfInBounds_toArray, List.set_cons_zero, List.set_cons_succ]
  refine wpAnyH_take (i := 5) (oi := ({ dst := Option.some 37, op := Go.Op.load 3 (Go.Operand.tmp 36), type := 3, pos := "coordinator.go:86", after := #[{ on := 4, ground := Go.Ground.data }], guard := Option.none } : Oper)) (v := ?v5x35) rfl (by kernel_rfl) (by kernel_rfl) (by kernel_rfl) (fun _ _ _ h => h) (Or.inl ⟨by rfl, ?hy5x35⟩) hS5 ?rest5x35
  case hy5x35 =>
    intro W0 hSw
    obtain ⟨s0, s1, s2⟩ := hSw
    go_simp
    first | done | with_reducible rfl
  try simp only [Act.put, List.setIfInBounds_toArray, List.set_cons_zero, List.set_cons_succ]
  refine wpAnyH_take (i := 6) (oi := ({ dst := Option.some 38, op := Go.Op.lookup 61 (Go.Operand.tmp 35) (Go.Operand.tmp 37) Bool.false, type := 67, pos := "coordinator.go:86", after := #[{ on := 3, ground := Go.Ground.data }, { on := 5, ground := Go.Ground.data }], guard := Option.none } : Oper)) (v := ?v6x36) rfl (by kernel_rfl) (by kernel_rfl) (by kernel_rfl) (fun _ _ _ h => h) (Or.inl ⟨by rfl, ?hy6x36⟩) hS5 ?rest6x36
  case hy6x36 =>
    intro W0 hSw
    obtain ⟨s0, s1, s2⟩ := hSw
    go_simp
    first | done | with_reducible rfl
  try simp only [Act.put, List.setIfInBounds_toArray, List.set_cons_zero, List.set_cons_succ]
  refine wpAnyH_ready (rs := [7]) (by kernel_rfl) (by simp) ?_
  refine AllReadyH.cons (o := ({ dst := Option.some 5, op := Go.Op.alloc 67, type := 0, pos := "coordinator.go:86", after := #[], guard := Option.none } : Oper)) rfl (fun K0 hK0 => ?_) AllReadyH.nil
  go_simp
  refine hK0.out _ _ (HS5.out _ ?hb7) (fun _ => ?_)
  case hb7 => first | exact HB1.out.trans (((alloc_below w1 _).trans ((drew_below _).mono (by simp))).mono HB1.out.size) | exact HB1.out.trans (((drew_below w1).trans (alloc_below w1.drew _)).mono HB1.out.size)
  clear hK0 K0
  try simp only [Act.put, List.setIfInBounds_toArray, List.set_cons_zero, List.set_cons_succ]
  refine wpAnyH_ready (rs := [8]) (by kernel_rfl) (by simp) ?_
  refine AllReadyH.cons (o := ({ dst := Option.none, op := Go.Op.store 67 (Go.Operand.tmp 5) (Go.Operand.tmp 38), type := 0, pos := "coordinator.go:86", after := #[{ on := 7, ground := Go.Ground.data }, { on := 6, ground := Go.Ground.data }, { on := 0, ground := Go.Ground.phase }, { on := 1, ground := Go.Ground.phase }, { on := 2, ground := Go.Ground.phase }, { on := 3, ground := Go.Ground.phase }, { on := 4, ground := Go.Ground.phase }, { on := 5, ground := Go.Ground.phase }, { on := 6, ground := Go.Ground.phase }, { on := 7, ground := Go.Ground.phase }], guard := Option.none } : Oper)) rfl (fun K0 hK0 => ?_) AllReadyH.nil
  go_simp
  refine hK0.out _ _ (HS5.out _ ?hb8) (fun _ => ?_)
  case hb8 => first | exact HB1.out.trans (((alloc_below w1 _).trans ((drew_below _).mono (by simp))).mono HB1.out.size) | exact HB1.out.trans (((drew_below w1).trans (alloc_below w1.drew _)).mono HB1.out.size)
  clear hK0 K0
  try simp only [Act.put, List.setIfInBounds_toArray, List.set_cons_zero, List.set_cons_succ]
  refine wpAnyH_done (by kernel_rfl) ?_ _
  obtain ⟨W5, hW5⟩ : ∃ W5, Hid (W5 = (w1.alloc (.cells #[.int .i64 3, .int .i64 (a : Int), .int .i64 (o : Int), .int .i64 y, .int .i64 s] 67)).drew) := ⟨_, Lib.hid rfl⟩
  rw [← hW5.out]
  have hb5 : Below W0.heap.size W0 W5 := by rw [hW5.out]; exact HB1.out.trans (((alloc_below w1 _).trans ((drew_below _).mono (by simp))).mono HB1.out.size)
  have ht5 : W5.heap[w1.heap.size]? = some (.cells #[.int .i64 3, .int .i64 (a : Int), .int .i64 (o : Int), .int .i64 y, .int .i64 s] 67 (0, 0)) := by rw [hW5.out]; exact heap_alloc_new w1 _
  obtain ⟨l0, l1, l2, l3, l4⟩ := box5 (HL5.out _ hb5)
  obtain ⟨z0, z1, z2, z3, z4⟩ := box5 ht5
  have hcw := HCW.out _ hb5
  have hvn := HVN.out _ hb5 k HKK.out
  rw [← HXX.out] at hvn
  have HVN2 := Lib.hid hvn
  have HB5 := Lib.hid hb5
  clear hvn
  clear hb5 ht5 hcw
  go_wp2_with (go_at_call 30; refine HVN2.out.mono ?_; rintro e1 w6 ⟨rfl, hl⟩
               have HE := Lib.hid ((hl.pre HB5.out).pre HB0.out)
               clear hl)
  go_ret
  exact ⟨rfl, HE.out⟩
set_option maxRecDepth 100000 in
set_option maxHeartbeats 16000000 in
theorem hear_dol {w : World} {B : Nat} {S : CoS} (h : Co w B S) {f x : Nat} (hf16 : f < 16) (hx : x < 1099511627776) (hxn : x % 16 = S.node) {e : Te} (he : findT S.T x = some e) (hes : e.s = 3) (ho : e.o < 65536) (hw0 : woB e.o f = 0) (hroom : S.b + (bytesOf S.rs).length + 905 ≤ 100000) :
    Calls Try.prog 14 #[.pointer (some ⟨S.c, 0, none⟩), .agg #[.int .i64 7, .int .i64 (f : Int), .int .i64 (S.node : Int), .int .i64 (x : Int), .slice none 0 0]] w (fun e1 w' => e1 = .returned (.int .i64 0) ∧ DnT w B S x w') := by
  have hxi : i64ok (x : Int) := by unfold i64ok; omega
  obtain ⟨k, hk⟩ : ∃ k : Int, k = 7 := ⟨_, rfl⟩
  have HRT := Lib.hid (fun W => rightL_any k (f : Int) (S.node : Int) (x : Int) [] none 0 0 rfl (by omega) W (RdI.nil _ _ _))
  rw [right_of (by omega) hf16 h.nod (by omega)] at HRT
  obtain ⟨X, hX⟩ : ∃ X : Int, X = (x : Int) := ⟨_, rfl⟩
  have hX16 : X % 16 = (S.node : Int) := by omega
  have hX17 : X.tmod 16 = (S.node : Int) := by rw [Int.tmod_eq_emod_of_nonneg (by omega)]; exact hX16
  have hX0 : 0 ≤ X := by omega
  have hnn : ((S.node : Int) != (S.node : Int)) = false := by simp
  obtain ⟨gl, hgl⟩ : ∃ gl, gl = w.heap.size := ⟨_, rfl⟩
  obtain ⟨L5, hL5⟩ : ∃ L5, L5 = Obj.cells #[.int .i64 k, .int .i64 (f : Int), .int .i64 (S.node : Int), .int .i64 X, .slice none 0 0] 46 := ⟨_, rfl⟩
  have hb0 := alloc_below w L5
  have hl5 := heap_alloc_new w L5
  obtain ⟨W0, hW0⟩ : ∃ W0, W0 = w.alloc L5 := ⟨_, rfl⟩
  rw [← hW0] at hb0 hl5
  rw [← hgl, hL5] at hl5
  have hc0 := h.below hb0
  have HB0 := Lib.hid hb0
  have HS3 : Hid (∀ W, Below W0.heap.size W0 W → (fun W : World => W.cell? ⟨gl, 0, none⟩ = some (.int .i64 k) ∧ W.cell? ⟨gl, 1, none⟩ = some (.int .i64 (f : Int)) ∧ W.cell? ⟨gl, 2, none⟩ = some (.int .i64 (S.node : Int)) ∧ W.cell? ⟨gl, 3, none⟩ = some (.int .i64 X) ∧ W.cell? ⟨gl, 4, none⟩ = some (.slice none 0 0) ∧ W.cell? ⟨S.c, 0, none⟩ = some (.int .i64 (S.node : Int))) W) := Lib.hid fun W hb => by
    obtain ⟨l0, l1, l2, l3, l4⟩ := box5 ((hb.block gl (lt_of_heap hl5)).trans hl5)
    obtain ⟨d0, _⟩ := box7_ (hc0.below hb).box
    exact ⟨l0, l1, l2, l3, l4, d0⟩
  obtain ⟨n, s0, a, o, y0, t0⟩ := e
  simp only at hes ho hw0 ⊢
  subst hes
  obtain ⟨y, hy⟩ : ∃ y : Int, y = (y0 : Int) := ⟨_, rfl⟩
  obtain ⟨s, hs⟩ : ∃ s : Int, s = (t0 : Int) := ⟨_, rfl⟩
  have HLK : Hid (∀ W, Below W0.heap.size W0 W → (Instr.lookup 61 (.map (some S.m)) (.int .i64 X) false).run Try.prog W = .ok (.agg #[.int .i64 3, .int .i64 (a : Int), .int .i64 (o : Int), .int .i64 y, .int .i64 s]) W) := Lib.hid fun W hb => by
    have h1 := (hc0.below hb).map.look hxi
    unfold stT at h1
    rw [hX]
    simp only [he, Te.v, teV] at h1
    rw [hy, hs]
    exact h1
  have HVN : Hid (∀ W, Below W0.heap.size W0 W → ∀ kk : Int, kk = 7 → Calls Try.prog 30 #[.pointer (some ⟨S.c, 0, none⟩), .agg #[.int .i64 kk, .int .i64 (f : Int), .int .i64 (S.node : Int), .int .i64 (x : Int), .slice none 0 0], .agg #[.int .i64 3, .int .i64 (a : Int), .int .i64 (o : Int), .int .i64 y, .int .i64 s]] W (fun e1 w1 => e1 = .returned (.tuple #[]) ∧ DnT W B S x w1)) := Lib.hid fun W hb kk hkk => by
    rw [hkk]
    rw [hy, hs]
    exact done_last (hc0.below hb) (S.node : Int) hf16 hxi ho y0 t0 hw0 hroom
  clear he hy hs ho hw0 hroom
  rw [← hX] at HRT
  rw [← hX, ← hk]
  have HC := Lib.hid (closed_any hc0)
  rw [hW0, hL5] at HC
  have HW0 := Lib.hid hW0
  rw [hL5] at HW0
  have HGL := Lib.hid hgl
  have HXX := Lib.hid hX
  have HCW : Hid (∀ W, Below W0.heap.size W0 W → Co W B S) := Lib.hid fun W hb => hc0.below hb
  have HL5 : Hid (∀ W, Below W0.heap.size W0 W → W.heap[gl]? = some (.cells #[.int .i64 k, .int .i64 (f : Int), .int .i64 (S.node : Int), .int .i64 X, .slice none 0 0] 46 (0, 0))) := Lib.hid fun W hb => (hb.block gl (lt_of_heap hl5)).trans hl5
  obtain ⟨_, _, _, _, _, c5, _⟩ := box7_ hc0.box
  have HKK := Lib.hid hk
  clear h hk hf16 hx hxn hxi hX hb0 hl5 hc0 hW0 hL5 hgl hX16
  go_enter Try.func14, Try.ntmps14
  go_upto_region 3 with (go_at_call 24; refine HC.out.mono ?_; rintro e1 w1 ⟨rfl, rfl⟩)
  rw [← HW0.out]
  have hSS := HS3.out _ (drew_below W0)
  rw [← HGL.out]
  refine wp_region_held_drew (S := (fun W : World => W.cell? ⟨gl, 0, none⟩ = some (.int .i64 k) ∧ W.cell? ⟨gl, 1, none⟩ = some (.int .i64 (f : Int)) ∧ W.cell? ⟨gl, 2, none⟩ = some (.int .i64 (S.node : Int)) ∧ W.cell? ⟨gl, 3, none⟩ = some (.int .i64 X) ∧ W.cell? ⟨gl, 4, none⟩ = some (.slice none 0 0) ∧ W.cell? ⟨S.c, 0, none⟩ = some (.int .i64 (S.node : Int)))) (by kernel_rfl) hSS (fun _ => ?_)
  refine wpAnyH_take (i := 0) (oi := ({ dst := Option.some 10, op := Go.Op.load 46 (Go.Operand.tmp 3), type := 46, pos := "coordinator.go:83", after := #[], guard := Option.none } : Oper)) (v := ?v0x8) rfl (by kernel_rfl) (by kernel_rfl) (by kernel_rfl) (fun _ _ _ h => h) (Or.inl ⟨by rfl, ?hy0x8⟩) hSS ?rest0x8
  case hy0x8 =>
    intro W0 hSw
    obtain ⟨s0, s1, s2, s3, s4, s5⟩ := hSw
    go_simp
    first | done | with_reducible rfl
  try simp only [Act.put, List.setIfInBounds_toArray, List.set_cons_zero, List.set_cons_succ]
  refine wpAnyH_ready (rs := [1]) (by kernel_rfl) (by simp) ?_
  refine AllReadyH.cons (o := ({ dst := Option.some 11, op := Go.Op.call { callee := Go.Callee.value (Go.Operand.func 25), args := #[Go.Operand.tmp 10], argTypes := #[46] }, type := 4, pos := "coordinator.go:83", after := #[{ on := 0, ground := Go.Ground.data }], guard := Option.none } : Oper)) rfl (fun K0 hK0 => ?_) AllReadyH.nil
  go_simp
  go_at_call 25
  refine (HRT.out _).mono ?_
  rintro e1 w1 ⟨rfl, hb1⟩
  have HB1 := Lib.hid ((drew_below W0).trans (Below.mono hb1 (Nat.le_refl _)))
  have hSS := HS3.out _ HB1.out
  clear hb1
  try go_wp2_with fail
  refine hK0.out _ _ hSS (fun _ => ?_)
  clear hK0 K0
  try simp only [Act.put, List.setIfInBounds_toArray, List.set_cons_zero, List.set_cons_succ]
  refine wpAnyH_take (i := 2) (oi := ({ dst := Option.some 12, op := Go.Op.unOp Go.UnOp.not 4 (Go.Operand.tmp 11), type := 4, pos := "coordinator.go:83", after := #[{ on := 1, ground := Go.Ground.data }], guard := Option.none } : Oper)) (v := ?v2x9) rfl (by kernel_rfl) (by kernel_rfl) (by kernel_rfl) (fun _ _ _ h => h) (Or.inl ⟨by rfl, ?hy2x9⟩) hSS ?rest2x9
  case hy2x9 =>
    intro W0 hSw
    obtain ⟨s0, s1, s2, s3, s4, s5⟩ := hSw
    go_simp
    first | done | with_reducible rfl
  try simp only [Act.put, List.setIfInBounds_toArray, List.set_cons_zero, List.set_cons_succ]
  refine wpAnyH_take (i := 3) (oi := ({ dst := Option.some 13, op := Go.Op.move (Go.Operand.tmp 12), type := 4, pos := "coordinator.go:83", after := #[{ on := 2, ground := Go.Ground.data }, { on := 1, ground := Go.Ground.chain }], guard := Option.none } : Oper)) (v := ?v3x10) rfl (by kernel_rfl) (by kernel_rfl) (by kernel_rfl) (fun _ _ _ h => h) (Or.inl ⟨by rfl, ?hy3x10⟩) hSS ?rest3x10
  case hy3x10 =>
    intro W0 hSw
    obtain ⟨s0, s1, s2, s3, s4, s5⟩ := hSw
    go_simp
    first | done | with_reducible rfl
  try simp only [Act.put, List.setIfInBounds_toArray, List.set_cons_zero, List.set_cons_succ]
  refine wpAnyH_take (i := 4) (oi := ({ dst := Option.some 14, op := Go.Op.fieldAddr 46 (Go.Operand.tmp 3) 2, type := 0, pos := "coordinator.go:83", after := #[{ on := 3, ground := Go.Ground.guard }], guard := Option.some (3, Bool.false) } : Oper)) (v := ?v4x11) rfl (by kernel_rfl) (by kernel_rfl) (by kernel_rfl) (fun _ _ _ h => h) (Or.inl ⟨by rfl, ?hy4x11⟩) hSS ?rest4x11
  case hy4x11 =>
    intro W0 hSw
    obtain ⟨s0, s1, s2, s3, s4, s5⟩ := hSw
    go_simp
    first | done | with_reducible rfl
  try simp only [Act.put, List.setIfInBounds_toArray, List.set_cons_zero, List.set_cons_succ]
  refine wpAnyH_take (i := 5) (oi := ({ dst := Option.some 15, op := Go.Op.load 3 (Go.Operand.tmp 14), type := 3, pos := "coordinator.go:83", after := #[{ on := 4, ground := Go.Ground.data }, { on := 3, ground := Go.Ground.guard }], guard := Option.some (3, Bool.false) } : Oper)) (v := ?v5x12) rfl (by kernel_rfl) (by kernel_rfl) (by kernel_rfl) (fun _ _ _ h => h) (Or.inl ⟨by rfl, ?hy5x12⟩) hSS ?rest5x12
  case hy5x12 =>
    intro W0 hSw
    obtain ⟨s0, s1, s2, s3, s4, s5⟩ := hSw
    go_simp
    first | done | with_reducible rfl
  try simp only [Act.put, List.setIfInBounds_toArray, List.set_cons_zero, List.set_cons_succ]
  refine wpAnyH_take (i := 6) (oi := ({ dst := Option.some 16, op := Go.Op.move (Go.Operand.tmp 0), type := 28, pos := "coordinator.go:83", after := #[{ on := 3, ground := Go.Ground.guard }], guard := Option.some (3, Bool.false) } : Oper)) (v := ?v6x13) rfl (by kernel_rfl) (by kernel_rfl) (by kernel_rfl) (fun _ _ _ h => h) (Or.inl ⟨by rfl, ?hy6x13⟩) hSS ?rest6x13
  case hy6x13 =>
    intro W0 hSw
    obtain ⟨s0, s1, s2, s3, s4, s5⟩ := hSw
    go_simp
    first | done | with_reducible rfl
  try simp only [Act.put, List.setIfInBounds_toArray, List.set_cons_zero, List.set_cons_succ]
  refine wpAnyH_take (i := 7) (oi := ({ dst := Option.some 17, op := Go.Op.nilCheck (Go.Operand.tmp 16), type := 0, pos := "coordinator.go:83", after := #[{ on := 6, ground := Go.Ground.data }, { on := 3, ground := Go.Ground.guard }], guard := Option.some (3, Bool.false) } : Oper)) (v := ?v7x14) rfl (by kernel_rfl) (by kernel_rfl) (by kernel_rfl) (fun _ _ _ h => h) (Or.inl ⟨by rfl, ?hy7x14⟩) hSS ?rest7x14
  case hy7x14 =>
    intro W0 hSw
    obtain ⟨s0, s1, s2, s3, s4, s5⟩ := hSw
    go_simp
    first | done | with_reducible rfl
  try simp only [Act.put, List.setIfInBounds_toArray, List.set_cons_zero, List.set_cons_succ]
  refine wpAnyH_take (i := 8) (oi := ({ dst := Option.some 18, op := Go.Op.fieldAddr 63 (Go.Operand.tmp 17) 0, type := 0, pos := "coordinator.go:83", after := #[{ on := 7, ground := Go.Ground.data }, { on := 3, ground := Go.Ground.guard }], guard := Option.some (3, Bool.false) } : Oper)) (v := ?v8x15) rfl (by kernel_rfl) (by kernel_rfl) (by kernel_rfl) (fun _ _ _ h => h) (Or.inl ⟨by rfl, ?hy8x15⟩) hSS ?rest8x15
  case hy8x15 =>
    intro W0 hSw
    obtain ⟨s0, s1, s2, s3, s4, s5⟩ := hSw
    go_simp
    first | done | with_reducible rfl
  try simp only [Act.put, List.setIfInBounds_toArray, List.set_cons_zero, List.set_cons_succ]
  refine wpAnyH_take (i := 9) (oi := ({ dst := Option.some 19, op := Go.Op.load 3 (Go.Operand.tmp 18), type := 3, pos := "coordinator.go:83", after := #[{ on := 8, ground := Go.Ground.data }, { on := 3, ground := Go.Ground.guard }], guard := Option.some (3, Bool.false) } : Oper)) (v := ?v9x16) rfl (by kernel_rfl) (by kernel_rfl) (by kernel_rfl) (fun _ _ _ h => h) (Or.inl ⟨by rfl, ?hy9x16⟩) hSS ?rest9x16
  case hy9x16 =>
    intro W0 hSw
    obtain ⟨s0, s1, s2, s3, s4, s5⟩ := hSw
    go_simp
    first | done | with_reducible rfl
  try simp only [Act.put, List.setIfInBounds_toArray, List.set_cons_zero, List.set_cons_succ]
  refine wpAnyH_take (i := 10) (oi := ({ dst := Option.some 20, op := Go.Op.binOp Go.BinOp.neq 3 (Go.Operand.tmp 15) (Go.Operand.tmp 19) 3, type := 4, pos := "coordinator.go:83", after := #[{ on := 5, ground := Go.Ground.data }, { on := 9, ground := Go.Ground.data }, { on := 3, ground := Go.Ground.guard }], guard := Option.some (3, Bool.false) } : Oper)) (v := ?v10x17) rfl (by kernel_rfl) (by kernel_rfl) (by kernel_rfl) (fun _ _ _ h => h) (Or.inl ⟨by rfl, ?hy10x17⟩) hSS ?rest10x17
  case hy10x17 =>
    intro W0 hSw
    obtain ⟨s0, s1, s2, s3, s4, s5⟩ := hSw
    go_simp
    first | done | with_reducible rfl
  try simp only [Act.put, List.setIfInBounds_toArray, List.set_cons_zero, List.set_cons_succ]
  refine wpAnyH_take (i := 11) (oi := ({ dst := Option.some 21, op := Go.Op.pick (Go.Operand.tmp 13) (Go.Operand.const (Go.Value.bool Bool.true)) (Go.Operand.tmp 20), type := 4, pos := "coordinator.go:83", after := #[{ on := 3, ground := Go.Ground.data }, { on := 10, ground := Go.Ground.data }], guard := Option.none } : Oper)) (v := ?v11x18) rfl (by kernel_rfl) (by kernel_rfl) (by kernel_rfl) (fun _ _ _ h => h) (Or.inl ⟨by rfl, ?hy11x18⟩) hSS ?rest11x18
  case hy11x18 =>
    intro W0 hSw
    obtain ⟨s0, s1, s2, s3, s4, s5⟩ := hSw
    go_simp
    first | done | with_reducible rfl
  try simp only [Act.put, List.setIfInBounds_toArray, List.set_cons_zero, List.set_cons_succ]
  refine wpAnyH_take (i := 12) (oi := ({ dst := Option.some 22, op := Go.Op.move (Go.Operand.tmp 21), type := 4, pos := "coordinator.go:83", after := #[{ on := 11, ground := Go.Ground.data }, { on := 3, ground := Go.Ground.chain }], guard := Option.none } : Oper)) (v := ?v12x19) rfl (by kernel_rfl) (by kernel_rfl) (by kernel_rfl) (fun _ _ _ h => h) (Or.inl ⟨by rfl, ?hy12x19⟩) hSS ?rest12x19
  case hy12x19 =>
    intro W0 hSw
    obtain ⟨s0, s1, s2, s3, s4, s5⟩ := hSw
    go_simp
    first | done | with_reducible rfl
  try simp only [Act.put, List.setIfInBounds_toArray, List.set_cons_zero, List.set_cons_succ]
  refine wpAnyH_take (i := 13) (oi := ({ dst := Option.some 23, op := Go.Op.fieldAddr 46 (Go.Operand.tmp 3) 3, type := 0, pos := "coordinator.go:83", after := #[{ on := 12, ground := Go.Ground.guard }], guard := Option.some (12, Bool.false) } : Oper)) (v := ?v13x20) rfl (by kernel_rfl) (by kernel_rfl) (by kernel_rfl) (fun _ _ _ h => h) (Or.inl ⟨by rfl, ?hy13x20⟩) hSS ?rest13x20
  case hy13x20 =>
    intro W0 hSw
    obtain ⟨s0, s1, s2, s3, s4, s5⟩ := hSw
    go_simp
    first | done | with_reducible rfl
  try simp only [Act.put, List.setIfInBounds_toArray, List.set_cons_zero, List.set_cons_succ]
  refine wpAnyH_take (i := 14) (oi := ({ dst := Option.some 24, op := Go.Op.load 3 (Go.Operand.tmp 23), type := 3, pos := "coordinator.go:83", after := #[{ on := 13, ground := Go.Ground.data }, { on := 12, ground := Go.Ground.guard }], guard := Option.some (12, Bool.false) } : Oper)) (v := ?v14x21) rfl (by kernel_rfl) (by kernel_rfl) (by kernel_rfl) (fun _ _ _ h => h) (Or.inl ⟨by rfl, ?hy14x21⟩) hSS ?rest14x21
  case hy14x21 =>
    intro W0 hSw
    obtain ⟨s0, s1, s2, s3, s4, s5⟩ := hSw
    go_simp
    first | done | with_reducible rfl
  try simp only [Act.put, List.setIfInBounds_toArray, List.set_cons_zero, List.set_cons_succ]
  refine wpAnyH_take (i := 15) (oi := ({ dst := Option.some 25, op := Go.Op.binOp Go.BinOp.rem 3 (Go.Operand.tmp 24) (Go.Operand.const (Go.Value.int Go.IntKind.i64 16)) 3, type := 3, pos := "coordinator.go:83", after := #[{ on := 14, ground := Go.Ground.data }, { on := 12, ground := Go.Ground.guard }], guard := Option.some (12, Bool.false) } : Oper)) (v := ?v15x22) rfl (by kernel_rfl) (by kernel_rfl) (by kernel_rfl) (fun _ _ _ h => h) (Or.inl ⟨by rfl, ?hy15x22⟩) hSS ?rest15x22
  case hy15x22 =>
    intro W0 hSw
    obtain ⟨s0, s1, s2, s3, s4, s5⟩ := hSw
    go_simp
    first | done | with_reducible rfl
  try simp only [Act.put, List.setIfInBounds_toArray, List.set_cons_zero, List.set_cons_succ]
  refine wpAnyH_take (i := 16) (oi := ({ dst := Option.some 26, op := Go.Op.move (Go.Operand.tmp 0), type := 28, pos := "coordinator.go:83", after := #[{ on := 12, ground := Go.Ground.guard }], guard := Option.some (12, Bool.false) } : Oper)) (v := ?v16x23) rfl (by kernel_rfl) (by kernel_rfl) (by kernel_rfl) (fun _ _ _ h => h) (Or.inl ⟨by rfl, ?hy16x23⟩) hSS ?rest16x23
  case hy16x23 =>
    intro W0 hSw
    obtain ⟨s0, s1, s2, s3, s4, s5⟩ := hSw
    go_simp
    first | done | with_reducible rfl
  try simp only [Act.put, List.setIfInBounds_toArray, List.set_cons_zero, List.set_cons_succ]
  refine wpAnyH_take (i := 17) (oi := ({ dst := Option.some 27, op := Go.Op.nilCheck (Go.Operand.tmp 26), type := 0, pos := "coordinator.go:83", after := #[{ on := 16, ground := Go.Ground.data }, { on := 12, ground := Go.Ground.guard }], guard := Option.some (12, Bool.false) } : Oper)) (v := ?v17x24) rfl (by kernel_rfl) (by kernel_rfl) (by kernel_rfl) (fun _ _ _ h => h) (Or.inl ⟨by rfl, ?hy17x24⟩) hSS ?rest17x24
  case hy17x24 =>
    intro W0 hSw
    obtain ⟨s0, s1, s2, s3, s4, s5⟩ := hSw
    go_simp
    first | done | with_reducible rfl
  try simp only [Act.put, List.setIfInBounds_toArray, List.set_cons_zero, List.set_cons_succ]
  refine wpAnyH_take (i := 18) (oi := ({ dst := Option.some 28, op := Go.Op.fieldAddr 63 (Go.Operand.tmp 27) 0, type := 0, pos := "coordinator.go:83", after := #[{ on := 17, ground := Go.Ground.data }, { on := 12, ground := Go.Ground.guard }], guard := Option.some (12, Bool.false) } : Oper)) (v := ?v18x25) rfl (by kernel_rfl) (by kernel_rfl) (by kernel_rfl) (fun _ _ _ h => h) (Or.inl ⟨by rfl, ?hy18x25⟩) hSS ?rest18x25
  case hy18x25 =>
    intro W0 hSw
    obtain ⟨s0, s1, s2, s3, s4, s5⟩ := hSw
    go_simp
    first | done | with_reducible rfl
  try simp only [Act.put, List.setIfInBounds_toArray, List.set_cons_zero, List.set_cons_succ]
  refine wpAnyH_take (i := 19) (oi := ({ dst := Option.some 29, op := Go.Op.load 3 (Go.Operand.tmp 28), type := 3, pos := "coordinator.go:83", after := #[{ on := 18, ground := Go.Ground.data }, { on := 12, ground := Go.Ground.guard }], guard := Option.some (12, Bool.false) } : Oper)) (v := ?v19x26) rfl (by kernel_rfl) (by kernel_rfl) (by kernel_rfl) (fun _ _ _ h => h) (Or.inl ⟨by rfl, ?hy19x26⟩) hSS ?rest19x26
  case hy19x26 =>
    intro W0 hSw
    obtain ⟨s0, s1, s2, s3, s4, s5⟩ := hSw
    go_simp
    first | done | with_reducible rfl
  try simp only [Act.put, List.setIfInBounds_toArray, List.set_cons_zero, List.set_cons_succ]
  refine wpAnyH_take (i := 20) (oi := ({ dst := Option.some 30, op := Go.Op.binOp Go.BinOp.neq 3 (Go.Operand.tmp 25) (Go.Operand.tmp 29) 3, type := 4, pos := "coordinator.go:83", after := #[{ on := 15, ground := Go.Ground.data }, { on := 19, ground := Go.Ground.data }, { on := 12, ground := Go.Ground.guard }], guard := Option.some (12, Bool.false) } : Oper)) (v := ?v20x27) rfl (by kernel_rfl) (by kernel_rfl) (by kernel_rfl) (fun _ _ _ h => h) (Or.inl ⟨by rfl, ?hy20x27⟩) hSS ?rest20x27
  case hy20x27 =>
    intro W0 hSw
    obtain ⟨s0, s1, s2, s3, s4, s5⟩ := hSw
    go_simp
    first | done | with_reducible rfl
  try simp only [Act.put, List.setIfInBounds_toArray, List.set_cons_zero, List.set_cons_succ]
  refine wpAnyH_take (i := 21) (oi := ({ dst := Option.some 31, op := Go.Op.pick (Go.Operand.tmp 22) (Go.Operand.const (Go.Value.bool Bool.true)) (Go.Operand.tmp 30), type := 4, pos := "coordinator.go:83", after := #[{ on := 12, ground := Go.Ground.data }, { on := 20, ground := Go.Ground.data }], guard := Option.none } : Oper)) (v := ?v21x28) rfl (by kernel_rfl) (by kernel_rfl) (by kernel_rfl) (fun _ _ _ h => h) (Or.inl ⟨by rfl, ?hy21x28⟩) hSS ?rest21x28
  case hy21x28 =>
    intro W0 hSw
    obtain ⟨s0, s1, s2, s3, s4, s5⟩ := hSw
    go_simp
    first | done | with_reducible rfl
  try simp only [Act.put, List.setIfInBounds_toArray, List.set_cons_zero, List.set_cons_succ]
  refine wpAnyH_take (i := 22) (oi := ({ dst := Option.some 9, op := Go.Op.assign (Go.Operand.tmp 31), type := 4, pos := "coordinator.go:83", after := #[{ on := 21, ground := Go.Ground.data }, { on := 12, ground := Go.Ground.chain }], guard := Option.none } : Oper)) (v := ?v22x29) rfl (by kernel_rfl) (by kernel_rfl) (by kernel_rfl) (fun _ _ _ h => h) (Or.inl ⟨by rfl, ?hy22x29⟩) hSS ?rest22x29
  case hy22x29 =>
    intro W0 hSw
    obtain ⟨s0, s1, s2, s3, s4, s5⟩ := hSw
    go_simp
    first | done | with_reducible rfl
  try simp only [Act.put, List.setIfInBounds_toArray, List.set_cons_zero, List.set_cons_succ]
  refine wpAnyH_done (by kernel_rfl) ?_ _
  go_upto_region 5 with fail
  have e2 : (k == 2) = false := by rw [HKK.out]; rfl
  have e3 : (k == 3) = false := by rw [HKK.out]; rfl
  have e4 : (k == 4) = false := by rw [HKK.out]; rfl
  have e7 : (k == 7) = true := by rw [HKK.out]; rfl
  have e8 : (k == 8) = false := by rw [HKK.out]; rfl
  have HS5 : Hid (∀ W, Below W0.heap.size W0 W → (fun W : World => W.cell? ⟨S.c, 5, none⟩ = some (.map (some S.m)) ∧ W.cell? ⟨gl, 3, none⟩ = some (.int .i64 X) ∧ (Instr.lookup 61 (.map (some S.m)) (.int .i64 X) false).run Try.prog W = .ok (.agg #[.int .i64 3, .int .i64 (a : Int), .int .i64 (o : Int), .int .i64 y, .int .i64 s]) W) W) := Lib.hid fun W hb => by
    obtain ⟨_, _, _, _, _, d5, _⟩ := box7_ (HCW.out W hb).box
    obtain ⟨_, _, _, l3, _⟩ := box5 (HL5.out W hb)
    exact ⟨d5, l3, HLK.out W hb⟩
  have hS5 := HS5.out _ (HB1.out.trans ((drew_below w1).mono HB1.out.size))
  clear c5
  refine wp_region_held_drew (S := (fun W : World => W.cell? ⟨S.c, 5, none⟩ = some (.map (some S.m)) ∧ W.cell? ⟨gl, 3, none⟩ = some (.int .i64 X) ∧ (Instr.lookup 61 (.map (some S.m)) (.int .i64 X) false).run Try.prog W = .ok (.agg #[.int .i64 3, .int .i64 (a : Int), .int .i64 (o : Int), .int .i64 y, .int .i64 s]) W)) (by kernel_rfl) hS5 (fun _ => ?_)
  refine wpAnyH_take (i := 0) (oi := ({ dst := Option.some 32, op := Go.Op.move (Go.Operand.tmp 0), type := 28, pos := "coordinator.go:86", after := #[], guard := Option.none } : Oper)) (v := ?v0x30) rfl (by kernel_rfl) (by kernel_rfl) (by kernel_rfl) (fun _ _ _ h => h) (Or.inl ⟨by rfl, ?hy0x30⟩) hS5 ?rest0x30
  case hy0x30 =>
    intro W0 hSw
    obtain ⟨s0, s1, s2⟩ := hSw
    go_simp
    first | done | with_reducible rfl
  try simp only [Act.put, List.setIfInBounds_toArray, List.set_cons_zero, List.set_cons_succ]
  refine wpAnyH_take (i := 1) (oi := ({ dst := Option.some 33, op := Go.Op.nilCheck (Go.Operand.tmp 32), type := 0, pos := "coordinator.go:86", after := #[{ on := 0, ground := Go.Ground.data }], guard := Option.none } : Oper)) (v := ?v1x31) rfl (by kernel_rfl) (by kernel_rfl) (by kernel_rfl) (fun _ _ _ h => h) (Or.inl ⟨by rfl, ?hy1x31⟩) hS5 ?rest1x31
  case hy1x31 =>
    intro W0 hSw
    obtain ⟨s0, s1, s2⟩ := hSw
    go_simp
    first | done | with_reducible rfl
  try simp only [Act.put, List.setIfInBounds_toArray, List.set_cons_zero, List.set_cons_succ]
  refine wpAnyH_take (i := 2) (oi := ({ dst := Option.some 34, op := Go.Op.fieldAddr 63 (Go.Operand.tmp 33) 5, type := 0, pos := "coordinator.go:86", after := #[{ on := 1, ground := Go.Ground.data }], guard := Option.none } : Oper)) (v := ?v2x32) rfl (by kernel_rfl) (by kernel_rfl) (by kernel_rfl) (fun _ _ _ h => h) (Or.inl ⟨by rfl, ?hy2x32⟩) hS5 ?rest2x32
  case hy2x32 =>
    intro W0 hSw
    obtain ⟨s0, s1, s2⟩ := hSw
    go_simp
    first | done | with_reducible rfl
  try simp only [Act.put, List.setIfInBounds_toArray, List.set_cons_zero, List.set_cons_succ]
  refine wpAnyH_take (i := 3) (oi := ({ dst := Option.some 35, op := Go.Op.load 61 (Go.Operand.tmp 34), type := 61, pos := "coordinator.go:86", after := #[{ on := 2, ground := Go.Ground.data }], guard := Option.none } : Oper)) (v := ?v3x33) rfl (by kernel_rfl) (by kernel_rfl) (by kernel_rfl) (fun _ _ _ h => h) (Or.inl ⟨by rfl, ?hy3x33⟩) hS5 ?rest3x33
  case hy3x33 =>
    intro W0 hSw
    obtain ⟨s0, s1, s2⟩ := hSw
    go_simp
    first | done | with_reducible rfl
  try simp only [Act.put, List.setIfInBounds_toArray, List.set_cons_zero, List.set_cons_succ]
  refine wpAnyH_take (i := 4) (oi := ({ dst := Option.some 36, op := Go.Op.fieldAddr 46 (Go.Operand.tmp 3) 3, type := 0, pos := "coordinator.go:86", after := #[], guard := Option.none } : Oper)) (v := ?v4x34) rfl (by kernel_rfl) (by kernel_rfl) (by kernel_rfl) (fun _ _ _ h => h) (Or.inl ⟨by rfl, ?hy4x34⟩) hS5 ?rest4x34
  case hy4x34 =>
    intro W0 hSw
    obtain ⟨s0, s1, s2⟩ := hSw
    go_simp
    first | done | with_reducible rfl
  try simp only [Act.put, List.setIfInBounds_toArray, List.set_cons_zero, List.set_cons_succ]
  refine wpAnyH_take (i := 5) (oi := ({ dst := Option.some 37, op := Go.Op.load 3 (Go.Operand.tmp 36), type := 3, pos := "coordinator.go:86", after := #[{ on := 4, ground := Go.Ground.data }], guard := Option.none } : Oper)) (v := ?v5x35) rfl (by kernel_rfl) (by kernel_rfl) (by kernel_rfl) (fun _ _ _ h => h) (Or.inl ⟨by rfl, ?hy5x35⟩) hS5 ?rest5x35
  case hy5x35 =>
    intro W0 hSw
    obtain ⟨s0, s1, s2⟩ := hSw
    go_simp
    first | done | with_reducible rfl
  try simp only [Act.put, List.setIfInBounds_toArray, List.set_cons_zero, List.set_cons_succ]
  refine wpAnyH_take (i := 6) (oi := ({ dst := Option.some 38, op := Go.Op.lookup 61 (Go.Operand.tmp 35) (Go.Operand.tmp 37) Bool.false, type := 67, pos := "coordinator.go:86", after := #[{ on := 3, ground := Go.Ground.data }, { on := 5, ground := Go.Ground.data }], guard := Option.none } : Oper)) (v := ?v6x36) rfl (by kernel_rfl) (by kernel_rfl) (by kernel_rfl) (fun _ _ _ h => h) (Or.inl ⟨by rfl, ?hy6x36⟩) hS5 ?rest6x36
  case hy6x36 =>
    intro W0 hSw
    obtain ⟨s0, s1, s2⟩ := hSw
    go_simp
    first | done | with_reducible rfl
  try simp only [Act.put, List.setIfInBounds_toArray, List.set_cons_zero, List.set_cons_succ]
  refine wpAnyH_ready (rs := [7]) (by kernel_rfl) (by simp) ?_
  refine AllReadyH.cons (o := ({ dst := Option.some 5, op := Go.Op.alloc 67, type := 0, pos := "coordinator.go:86", after := #[], guard := Option.none } : Oper)) rfl (fun K0 hK0 => ?_) AllReadyH.nil
  go_simp
  refine hK0.out _ _ (HS5.out _ ?hb7) (fun _ => ?_)
  case hb7 => first | exact HB1.out.trans (((alloc_below w1 _).trans ((drew_below _).mono (by simp))).mono HB1.out.size) | exact HB1.out.trans (((drew_below w1).trans (alloc_below w1.drew _)).mono HB1.out.size)
  clear hK0 K0
  try simp only [Act.put, List.setIfInBounds_toArray, List.set_cons_zero, List.set_cons_succ]
  refine wpAnyH_ready (rs := [8]) (by kernel_rfl) (by simp) ?_
  refine AllReadyH.cons (o := ({ dst := Option.none, op := Go.Op.store 67 (Go.Operand.tmp 5) (Go.Operand.tmp 38), type := 0, pos := "coordinator.go:86", after := #[{ on := 7, ground := Go.Ground.data }, { on := 6, ground := Go.Ground.data }, { on := 0, ground := Go.Ground.phase }, { on := 1, ground := Go.Ground.phase }, { on := 2, ground := Go.Ground.phase }, { on := 3, ground := Go.Ground.phase }, { on := 4, ground := Go.Ground.phase }, { on := 5, ground := Go.Ground.phase }, { on := 6, ground := Go.Ground.phase }, { on := 7, ground := Go.Ground.phase }], guard := Option.none } : Oper)) rfl (fun K0 hK0 => ?_) AllReadyH.nil
  go_simp
  refine hK0.out _ _ (HS5.out _ ?hb8) (fun _ => ?_)
  case hb8 => first | exact HB1.out.trans (((alloc_below w1 _).trans ((drew_below _).mono (by simp))).mono HB1.out.size) | exact HB1.out.trans (((drew_below w1).trans (alloc_below w1.drew _)).mono HB1.out.size)
  clear hK0 K0
  try simp only [Act.put, List.setIfInBounds_toArray, List.set_cons_zero, List.set_cons_succ]
  refine wpAnyH_done (by kernel_rfl) ?_ _
  obtain ⟨W5, hW5⟩ : ∃ W5, Hid (W5 = (w1.alloc (.cells #[.int .i64 3, .int .i64 (a : Int), .int .i64 (o : Int), .int .i64 y, .int .i64 s] 67)).drew) := ⟨_, Lib.hid rfl⟩
  rw [← hW5.out]
  have hb5 : Below W0.heap.size W0 W5 := by rw [hW5.out]; exact HB1.out.trans (((alloc_below w1 _).trans ((drew_below _).mono (by simp))).mono HB1.out.size)
  have ht5 : W5.heap[w1.heap.size]? = some (.cells #[.int .i64 3, .int .i64 (a : Int), .int .i64 (o : Int), .int .i64 y, .int .i64 s] 67 (0, 0)) := by rw [hW5.out]; exact heap_alloc_new w1 _
  obtain ⟨l0, l1, l2, l3, l4⟩ := box5 (HL5.out _ hb5)
  obtain ⟨z0, z1, z2, z3, z4⟩ := box5 ht5
  have hcw := HCW.out _ hb5
  have hvn := HVN.out _ hb5 k HKK.out
  rw [← HXX.out] at hvn
  have HVN2 := Lib.hid hvn
  have HB5 := Lib.hid hb5
  clear hvn
  clear hb5 ht5 hcw
  go_wp2_with (go_at_call 30; refine HVN2.out.mono ?_; rintro e1 w6 ⟨rfl, hl⟩
               have HE := Lib.hid ((hl.pre HB5.out).pre HB0.out)
               clear hl)
  go_ret
  exact ⟨rfl, HE.out⟩
end
end Go.Proofs.Ytogogekmodbdiaa
