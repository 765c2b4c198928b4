/- Package coordinator: votes of strangers, votes and questions behind a commit, the last vote of one that only read. -/
import Derived.Test.YtogogekmodbdiaaCX
namespace Go.Proofs.Ytogogekmodbdiaa
open Go.RowKit

set_option maxRecDepth 100000 in
set_option maxHeartbeats 4000000 in
theorem vote_off {f : Nat} (hf16 : f < 16) (c : Nat) (k t x : Int) {a o : Nat} (ho : o < 65536) (hof : o.testBit f = false) (y s : Int) (w : World) :
    Calls Try.prog 29 #[.pointer (some ⟨c, 0, none⟩), .agg #[.int .i64 k, .int .i64 (f : Int), .int .i64 t, .int .i64 x, .slice none 0 0], .agg #[.int .i64 2, .int .i64 (a : Int), .int .i64 (o : Int), .int .i64 y, .int .i64 s]] w (Ans (.int .i64 0) w) := by
  have HH := Lib.hid (fun W => has_any (n := f) ho hf16 W)
  rw [hof] at HH
  clear hf16 ho hof
  go_enter Try.func29, Try.ntmps29
  go_wp2_with (go_at_call 47; refine (HH.out _).mono ?_; rintro e1 w1 ⟨rfl, rfl⟩)
  go_ret
  exact ⟨rfl, alloc2_below _ _ _⟩
set_option maxRecDepth 100000 in
set_option maxHeartbeats 4000000 in
theorem vote_cm (c : Nat) (k f t x : Int) (a o y s : Int) (w : World) :
    Calls Try.prog 29 #[.pointer (some ⟨c, 0, none⟩), .agg #[.int .i64 k, .int .i64 f, .int .i64 t, .int .i64 x, .slice none 0 0], .agg #[.int .i64 3, .int .i64 a, .int .i64 o, .int .i64 y, .int .i64 s]] w (Ans (.int .i64 0) w) := by
  go_enter Try.func29, Try.ntmps29
  go_wp2_with fail
  go_ret
  exact ⟨rfl, alloc2_below _ _ _⟩
set_option maxRecDepth 100000 in
set_option maxHeartbeats 16000000 in
theorem vote_rlast {w : World} {B : Nat} {S : CoS} (h : Co w B S) (t : Int) {f x : Nat} (hf16 : f < 16) (hx : i64ok (x : Int)) {a o : Nat} (ho : o < 65536) (y s : Nat) (hy : y < 65536) (hy0 : y ≠ 0) (hof : o.testBit f = true) (hw0 : woB o f = 0) (hT : S.T.length < 1000) (hos : S.os.length ≤ 50000) (hroom : S.b + (bytesOf S.rs).length + 905 ≤ 100000) :
    Calls Try.prog 29 #[.pointer (some ⟨S.c, 0, none⟩), .agg #[.int .i64 4, .int .i64 (f : Int), .int .i64 t, .int .i64 (x : Int), .slice none 0 0], .agg #[.int .i64 2, .int .i64 (a : Int), .int .i64 (o : Int), .int .i64 (y : Int), .int .i64 (s : Int)]] w (fun e w' => e = .returned (.int .i64 0) ∧ CmT w B S x y w') := by
  have HH := Lib.hid (fun W => has_any (n := f) ho hf16 W)
  rw [hof] at HH
  have HWP := Lib.hid (fun W => without_any (n := f) ho hf16 W)
  rw [hw0] at HWP
  obtain ⟨X, hX⟩ : ∃ X : Int, X = (x : Int) := ⟨_, rfl⟩
  have HCM : Hid (∀ W, Below w.heap.size w W → Calls Try.prog 49 #[.pointer (some ⟨S.c, 0, none⟩), .int .i64 X, .int .i64 (y : Int)] W (fun e w' => e = .returned (.int .i64 0) ∧ CmT w B S x y w')) := Lib.hid fun W hb => by
    rw [hX]
    exact (commit_yes (h.below hb) hx hy hy0 hT hos hroom).mono fun e w1 hl => ⟨hl.1, hl.2.pre hb⟩
  rw [← hX]
  have HB0 : Hid (Below w.heap.size w ((w.alloc (.cells #[.int .i64 4, .int .i64 (f : Int), .int .i64 t, .int .i64 X, .slice none 0 0] 46)).alloc (.cells #[.int .i64 2, .int .i64 (a : Int), .int .i64 ((0 : Nat) : Int), .int .i64 (y : Int), .int .i64 (s : Int)] 67))) := Lib.hid (alloc2_below _ _ _)
  clear h hf16 hx ho hy hy0 hof hw0 hX hT hos hroom
  go_enter Try.func29, Try.ntmps29
  go_wp2_with (first
    | (go_at_call 47; refine (HH.out _).mono ?_; rintro e1 w1 ⟨rfl, rfl⟩)
    | (go_at_call 48; refine (HWP.out _).mono ?_; rintro e1 w1 ⟨rfl, rfl⟩)
    | (go_at_call 49; refine (HCM.out _ (by exact HB0.out)).mono ?_; rintro e1 w1 ⟨rfl, hl⟩
       have HE := Lib.hid hl
       clear hl))
  go_ret
  exact ⟨rfl, HE.out⟩
set_option maxRecDepth 100000 in
set_option maxHeartbeats 16000000 in
theorem answer_cm {w : World} {B : Nat} {S : CoS} (h : Co w B S) (k t : Int) {f x : Nat} (hf16 : f < 16) (A : Option Addr) (n c : Nat) (a o y s : Int) (hos : S.os.length ≤ 50000) :
    Calls Try.prog 31 #[.pointer (some ⟨S.c, 0, none⟩), .agg #[.int .i64 k, .int .i64 (f : Int), .int .i64 t, .int .i64 (x : Int), .slice A n c], .agg #[.int .i64 3, .int .i64 a, .int .i64 o, .int .i64 y, .int .i64 s]] w (fun e w' => e = .returned (.tuple #[]) ∧ LtT w B S S.T [(5, (S.node : Int), (f : Int), (x : Int), 0)] w') := by
  have HW := Lib.hid (fun W => with_any (m := 0) (n := f) (by omega) hf16 W)
  have hz : (0 ||| 2 ^ f : Nat) = 2 ^ f := Nat.zero_or _
  rw [hz] at HW
  have HP := Lib.hid (pow16n hf16)
  have HNP := Lib.hid (nodesI_pow hf16)
  have hb2 := alloc2_below w (.cells #[.int .i64 k, .int .i64 (f : Int), .int .i64 t, .int .i64 (x : Int), .slice A n c] 46) (.cells #[.int .i64 3, .int .i64 a, .int .i64 o, .int .i64 y, .int .i64 s] 67)
  have HC2 := Lib.hid (h.below hb2)
  have HB2 := Lib.hid hb2
  have HOS := Lib.hid hos
  clear h hf16 hos hz hb2
  go_enter Try.func31, Try.ntmps31
  go_wp2_with (first
    | (go_at_call 45; refine (HW.out _).mono ?_; rintro e w1 ⟨rfl, rfl⟩)
    | (go_at_call 27; refine (send_no HC2.out 5 (x := x) (by omega) HP.out HOS.out 0 rfl).mono ?_; rintro e w2 hs
       have he := hs.1
       subst he
       have hl := LtT.of_sn (S := S) (T' := S.T) HB2.out (Only.of_below (K := (· = S.m)) (Below.refl _ _)) hs
       rw [HNP.out] at hl
       have HE := Lib.hid hl
       clear hs hl))
  refine bodyPost_end (v := .tuple #[]) (by simp [results, Try.results31, go_sem]) rfl ?_
  exact ⟨rfl, HE.out⟩
set_option maxRecDepth 100000 in
set_option maxHeartbeats 16000000 in
theorem hear_of2 {w : World} {B : Nat} {S : CoS} (h : Co w B S) {f x : Nat} (hf16 : f < 16) (hx : x < 1099511627776) (hxn : x % 16 = S.node) {e : Te} (he : findT S.T x = some e) (hes : e.s = 2) (ho : e.o < 65536) (hof : e.o.testBit f = false) :
    Calls Try.prog 14 #[.pointer (some ⟨S.c, 0, none⟩), .agg #[.int .i64 2, .int .i64 (f : Int), .int .i64 (S.node : Int), .int .i64 (x : Int), .slice none 0 0]] w (fun e1 w' => e1 = .returned (.int .i64 0) ∧ LtT w B S S.T [] w') := by
  have hxi : i64ok (x : Int) := by unfold i64ok; omega
  obtain ⟨k, hk⟩ : ∃ k : Int, k = 2 := ⟨_, rfl⟩
  have HRT := Lib.hid (fun W => rightL_any k (f : Int) (S.node : Int) (x : Int) [] none 0 0 rfl (by omega) W (RdI.nil _ _ _))
  rw [right_of (by omega) hf16 h.nod (by omega)] at HRT
  obtain ⟨X, hX⟩ : ∃ X : Int, X = (x : Int) := ⟨_, rfl⟩
  have hX16 : X % 16 = (S.node : Int) := by omega
  have hX17 : X.tmod 16 = (S.node : Int) := by rw [Int.tmod_eq_emod_of_nonneg (by omega)]; exact hX16
  have hX0 : 0 ≤ X := by omega
  have hnn : ((S.node : Int) != (S.node : Int)) = false := by simp
  obtain ⟨gl, hgl⟩ : ∃ gl, gl = w.heap.size := ⟨_, rfl⟩
  obtain ⟨L5, hL5⟩ : ∃ L5, L5 = Obj.cells #[.int .i64 k, .int .i64 (f : Int), .int .i64 (S.node : Int), .int .i64 X, .slice none 0 0] 46 := ⟨_, rfl⟩
  have hb0 := alloc_below w L5
  have hl5 := heap_alloc_new w L5
  obtain ⟨W0, hW0⟩ : ∃ W0, W0 = w.alloc L5 := ⟨_, rfl⟩
  rw [← hW0] at hb0 hl5
  rw [← hgl, hL5] at hl5
  have hc0 := h.below hb0
  have HB0 := Lib.hid hb0
  have HS3 : Hid (∀ W, Below W0.heap.size W0 W → (fun W : World => W.cell? ⟨gl, 0, none⟩ = some (.int .i64 k) ∧ W.cell? ⟨gl, 1, none⟩ = some (.int .i64 (f : Int)) ∧ W.cell? ⟨gl, 2, none⟩ = some (.int .i64 (S.node : Int)) ∧ W.cell? ⟨gl, 3, none⟩ = some (.int .i64 X) ∧ W.cell? ⟨gl, 4, none⟩ = some (.slice none 0 0) ∧ W.cell? ⟨S.c, 0, none⟩ = some (.int .i64 (S.node : Int))) W) := Lib.hid fun W hb => by
    obtain ⟨l0, l1, l2, l3, l4⟩ := box5 ((hb.block gl (lt_of_heap hl5)).trans hl5)
    obtain ⟨d0, _⟩ := box7_ (hc0.below hb).box
    exact ⟨l0, l1, l2, l3, l4, d0⟩
  obtain ⟨n, s0, a, o, y0, t0⟩ := e
  simp only at hes ho hof ⊢
  subst hes
  obtain ⟨y, hy⟩ : ∃ y : Int, y = (y0 : Int) := ⟨_, rfl⟩
  obtain ⟨s, hs⟩ : ∃ s : Int, s = (t0 : Int) := ⟨_, rfl⟩
  have HLK : Hid (∀ W, Below W0.heap.size W0 W → (Instr.lookup 61 (.map (some S.m)) (.int .i64 X) false).run Try.prog W = .ok (.agg #[.int .i64 2, .int .i64 (a : Int), .int .i64 (o : Int), .int .i64 y, .int .i64 s]) W) := Lib.hid fun W hb => by
    have h1 := (hc0.below hb).map.look hxi
    unfold stT at h1
    rw [hX]
    simp only [he, Te.v, teV] at h1
    rw [hy, hs]
    exact h1
  have HH0 := Lib.hid h
  have HVN : Hid (∀ (kk : Int) W, Calls Try.prog 29 #[.pointer (some ⟨S.c, 0, none⟩), .agg #[.int .i64 kk, .int .i64 (f : Int), .int .i64 (S.node : Int), .int .i64 X, .slice none 0 0], .agg #[.int .i64 2, .int .i64 (a : Int), .int .i64 (o : Int), .int .i64 y, .int .i64 s]] W (Ans (.int .i64 0) W)) := Lib.hid fun kk W => vote_off hf16 S.c kk (S.node : Int) X ho hof y s W
  clear he hy hs ho hof
  rw [← hX] at HRT
  rw [← hX, ← hk]
  have HC := Lib.hid (closed_any hc0)
  rw [hW0, hL5] at HC
  have HW0 := Lib.hid hW0
  rw [hL5] at HW0
  have HGL := Lib.hid hgl
  have HXX := Lib.hid hX
  have HCW : Hid (∀ W, Below W0.heap.size W0 W → Co W B S) := Lib.hid fun W hb => hc0.below hb
  have HL5 : Hid (∀ W, Below W0.heap.size W0 W → W.heap[gl]? = some (.cells #[.int .i64 k, .int .i64 (f : Int), .int .i64 (S.node : Int), .int .i64 X, .slice none 0 0] 46 (0, 0))) := Lib.hid fun W hb => (hb.block gl (lt_of_heap hl5)).trans hl5
  obtain ⟨_, _, _, _, _, c5, _⟩ := box7_ hc0.box
  have HKK := Lib.hid hk
  clear h hk hf16 hx hxn hxi hX hb0 hl5 hc0 hW0 hL5 hgl hX16
  go_enter Try.func14, Try.ntmps14
  go_upto_region 3 with (go_at_call 24; refine HC.out.mono ?_; rintro e1 w1 ⟨rfl, rfl⟩)
  rw [← HW0.out]
  have hSS := HS3.out _ (drew_below W0)
  rw [← HGL.out]
  refine wp_region_held_drew (S := (fun W : World => W.cell? ⟨gl, 0, none⟩ = some (.int .i64 k) ∧ W.cell? ⟨gl, 1, none⟩ = some (.int .i64 (f : Int)) ∧ W.cell? ⟨gl, 2, none⟩ = some (.int .i64 (S.node : Int)) ∧ W.cell? ⟨gl, 3, none⟩ = some (.int .i64 X) ∧ W.cell? ⟨gl, 4, none⟩ = some (.slice none 0 0) ∧ W.cell? ⟨S.c, 0, none⟩ = some (.int .i64 (S.node : Int)))) (by kernel_rfl) hSS (fun _ => ?_)
  refine wpAnyH_take (i := 0) (oi := ({ dst := Option.some 10, op := Go.Op.load 46 (Go.Operand.tmp 3), type := 46, pos := "coordinator.go:83", after := #[], guard := Option.none } : Oper)) (v := ?v0x8) rfl (by kernel_rfl) (by kernel_rfl) (by kernel_rfl) (fun _ _ _ h => h) (Or.inl ⟨by rfl, ?hy0x8⟩) hSS ?rest0x8
  case hy0x8 =>
    intro W0 hSw
    obtain ⟨s0, s1, s2, s3, s4, s5⟩ := hSw
    go_simp
    first | done | with_reducible rfl
  try simp only [Act.put, List.setIfInBounds_toArray, List.set_cons_zero, List.set_cons_succ]
  refine wpAnyH_ready (rs := [1]) (by kernel_rfl) (by simp) ?_
  refine AllReadyH.cons (o := ({ dst := Option.some 11, op := Go.Op.call { callee := Go.Callee.value (Go.Operand.func 25), args := #[Go.Operand.tmp 10], argTypes := #[46] }, type := 4, pos := "coordinator.go:83", after := #[{ on := 0, ground := Go.Ground.data }], guard := Option.none } : Oper)) rfl (fun K0 hK0 => ?_) AllReadyH.nil
  go_simp
  go_at_call 25
  refine (HRT.out _).mono ?_
  rintro e1 w1 ⟨rfl, hb1⟩
  have HB1 := Lib.hid ((drew_below W0).trans (Below.mono hb1 (Nat.le_refl _)))
  have hSS := HS3.out _ HB1.out
  clear hb1
  try go_wp2_with fail
  refine hK0.out _ _ hSS (fun _ => ?_)
  clear hK0 K0
  try simp only [Act.put, List.setIfInBounds_toArray, List.set_cons_zero, List.set_cons_succ]
  refine wpAnyH_take (i := 2) (oi := ({ dst := Option.some 12, op := Go.Op.unOp Go.UnOp.not 4 (Go.Operand.tmp 11), type := 4, pos := "coordinator.go:83", after := #[{ on := 1, ground := Go.Ground.data }], guard := Option.none } : Oper)) (v := ?v2x9) rfl (by kernel_rfl) (by kernel_rfl) (by kernel_rfl) (fun _ _ _ h => h) (Or.inl ⟨by rfl, ?hy2x9⟩) hSS ?rest2x9
  case hy2x9 =>
    intro W0 hSw
    obtain ⟨s0, s1, s2, s3, s4, s5⟩ := hSw
    go_simp
    first | done | with_reducible rfl
  try simp only [Act.put, List.setIfInBounds_toArray, List.set_cons_zero, List.set_cons_succ]
  refine wpAnyH_take (i := 3) (oi := ({ dst := Option.some 13, op := Go.Op.move (Go.Operand.tmp 12), type := 4, pos := "coordinator.go:83", after := #[{ on := 2, ground := Go.Ground.data }, { on := 1, ground := Go.Ground.chain }], guard := Option.none } : Oper)) (v := ?v3x10) rfl (by kernel_rfl) (by kernel_rfl) (by kernel_rfl) (fun _ _ _ h => h) (Or.inl ⟨by rfl, ?hy3x10⟩) hSS ?rest3x10
  case hy3x10 =>
    intro W0 hSw
    obtain ⟨s0, s1, s2, s3, s4, s5⟩ := hSw
    go_simp
    first | done | with_reducible rfl
  try simp only [Act.put, List.setIfInBounds_toArray, List.set_cons_zero, List.set_cons_succ]
  refine wpAnyH_take (i := 4) (oi := ({ dst := Option.some 14, op := Go.Op.fieldAddr 46 (Go.Operand.tmp 3) 2, type := 0, pos := "coordinator.go:83", after := #[{ on := 3, ground := Go.Ground.guard }], guard := Option.some (3, Bool.false) } : Oper)) (v := ?v4x11) rfl (by kernel_rfl) (by kernel_rfl) (by kernel_rfl) (fun _ _ _ h => h) (Or.inl ⟨by rfl, ?hy4x11⟩) hSS ?rest4x11
  case hy4x11 =>
    intro W0 hSw
    obtain ⟨s0, s1, s2, s3, s4, s5⟩ := hSw
    go_simp
    first | done | with_reducible rfl
  try simp only [Act.put, List.setIfInBounds_toArray, List.set_cons_zero, List.set_cons_succ]
  refine wpAnyH_take (i := 5) (oi := ({ dst := Option.some 15, op := Go.Op.load 3 (Go.Operand.tmp 14), type := 3, pos := "coordinator.go:83", after := #[{ on := 4, ground := Go.Ground.data }, { on := 3, ground := Go.Ground.guard }], guard := Option.some (3, Bool.false) } : Oper)) (v := ?v5x12) rfl (by kernel_rfl) (by kernel_rfl) (by kernel_rfl) (fun _ _ _ h => h) (Or.inl ⟨by rfl, ?hy5x12⟩) hSS ?rest5x12
  case hy5x12 =>
    intro W0 hSw
    obtain ⟨s0, s1, s2, s3, s4, s5⟩ := hSw
    go_simp
    first | done | with_reducible rfl
  try simp only [Act.put, List.setIfInBounds_toArray, List.set_cons_zero, List.set_cons_succ]
  refine wpAnyH_take (i := 6) (oi := ({ dst := Option.some 16, op := Go.Op.move (Go.Operand.tmp 0), type := 28, pos := "coordinator.go:83", after := #[{ on := 3, ground := Go.Ground.guard }], guard := Option.some (3, Bool.false) } : Oper)) (v := ?v6x13) rfl (by kernel_rfl) (by kernel_rfl) (by kernel_rfl) (fun _ _ _ h => h) (Or.inl ⟨by rfl, ?hy6x13⟩) hSS ?rest6x13
  case hy6x13 =>
    intro W0 hSw
    obtain ⟨s0, s1, s2, s3, s4, s5⟩ := hSw
    go_simp
    first | done | with_reducible rfl
  try simp only [Act.put, List.setIfInBounds_toArray, List.set_cons_zero, List.set_cons_succ]
  refine wpAnyH_take (i := 7) (oi := ({ dst := Option.some 17, op := Go.Op.nilCheck (Go.Operand.tmp 16), type := 0, pos := "coordinator.go:83", after := #[{ on := 6, ground := Go.Ground.data }, { on := 3, ground := Go.Ground.guard }], guard := Option.some (3, Bool.false) } : Oper)) (v := ?v7x14) rfl (by kernel_rfl) (by kernel_rfl) (by kernel_rfl) (fun _ _ _ h => h) (Or.inl ⟨by rfl, ?hy7x14⟩) hSS ?rest7x14
  case hy7x14 =>
    intro W0 hSw
    obtain ⟨s0, s1, s2, s3, s4, s5⟩ := hSw
    go_simp
    first | done | with_reducible rfl
  try simp only [Act.put, List.setIfInBounds_toArray, List.set_cons_zero, List.set_cons_succ]
  refine wpAnyH_take (i := 8) (oi := ({ dst := Option.some 18, op := Go.Op.fieldAddr 63 (Go.Operand.tmp 17) 0, type := 0, pos := "coordinator.go:83", after := #[{ on := 7, ground := Go.Ground.data }, { on := 3, ground := Go.Ground.guard }], guard := Option.some (3, Bool.false) } : Oper)) (v := ?v8x15) rfl (by kernel_rfl) (by kernel_rfl) (by kernel_rfl) (fun _ _ _ h => h) (Or.inl ⟨by rfl, ?hy8x15⟩) hSS ?rest8x15
  case hy8x15 =>
    intro W0 hSw
    obtain ⟨s0, s1, s2, s3, s4, s5⟩ := hSw
    go_simp
    first | done | with_reducible rfl
  try simp only [Act.put, List.setIfInBounds_toArray, List.set_cons_zero, List.set_cons_succ]
  refine wpAnyH_take (i := 9) (oi := ({ dst := Option.some 19, op := Go.Op.load 3 (Go.Operand.tmp 18), type := 3, pos := "coordinator.go:83", after := #[{ on := 8, ground := Go.Ground.data }, { on := 3, ground := Go.Ground.guard }], guard := Option.some (3, Bool.false) } : Oper)) (v := ?v9x16) rfl (by kernel_rfl) (by kernel_rfl) (by kernel_rfl) (fun _ _ _ h => h) (Or.inl ⟨by rfl, ?hy9x16⟩) hSS ?rest9x16
  case hy9x16 =>
    intro W0 hSw
    obtain ⟨s0, s1, s2, s3, s4, s5⟩ := hSw
    go_simp
    first | done | with_reducible rfl
  try simp only [Act.put, List.setIfInBounds_toArray, List.set_cons_zero, List.set_cons_succ]
  refine wpAnyH_take (i := 10) (oi := ({ dst := Option.some 20, op := Go.Op.binOp Go.BinOp.neq 3 (Go.Operand.tmp 15) (Go.Operand.tmp 19) 3, type := 4, pos := "coordinator.go:83", after := #[{ on := 5, ground := Go.Ground.data }, { on := 9, ground := Go.Ground.data }, { on := 3, ground := Go.Ground.guard }], guard := Option.some (3, Bool.false) } : Oper)) (v := ?v10x17) rfl (by kernel_rfl) (by kernel_rfl) (by kernel_rfl) (fun _ _ _ h => h) (Or.inl ⟨by rfl, ?hy10x17⟩) hSS ?rest10x17
  case hy10x17 =>
    intro W0 hSw
    obtain ⟨s0, s1, s2, s3, s4, s5⟩ := hSw
    go_simp
    first | done | with_reducible rfl
  try simp only [Act.put, List.setIfInBounds_toArray, List.set_cons_zero, List.set_cons_succ]
  refine wpAnyH_take (i := 11) (oi := ({ dst := Option.some 21, op := Go.Op.pick (Go.Operand.tmp 13) (Go.Operand.const (Go.Value.bool Bool.true)) (Go.Operand.tmp 20), type := 4, pos := "coordinator.go:83", after := #[{ on := 3, ground := Go.Ground.data }, { on := 10, ground := Go.Ground.data }], guard := Option.none } : Oper)) (v := ?v11x18) rfl (by kernel_rfl) (by kernel_rfl) (by kernel_rfl) (fun _ _ _ h => h) (Or.inl ⟨by rfl, ?hy11x18⟩) hSS ?rest11x18
  case hy11x18 =>
    intro W0 hSw
    obtain ⟨s0, s1, s2, s3, s4, s5⟩ := hSw
    go_simp
    first | done | with_reducible rfl
  try simp only [Act.put, List.setIfInBounds_toArray, List.set_cons_zero, List.set_cons_succ]
  refine wpAnyH_take (i := 12) (oi := ({ dst := Option.some 22, op := Go.Op.move (Go.Operand.tmp 21), type := 4, pos := "coordinator.go:83", after := #[{ on := 11, ground := Go.Ground.data }, { on := 3, ground := Go.Ground.chain }], guard := Option.none } : Oper)) (v := ?v12x19) rfl (by kernel_rfl) (by kernel_rfl) (by kernel_rfl) (fun _ _ _ h => h) (Or.inl ⟨by rfl, ?hy12x19⟩) hSS ?rest12x19
  case hy12x19 =>
    intro W0 hSw
    obtain ⟨s0, s1, s2, s3, s4, s5⟩ := hSw
    go_simp
    first | done | with_reducible rfl
  try simp only [Act.put, List.setIfInBounds_toArray, List.set_cons_zero, List.set_cons_succ]
  refine wpAnyH_take (i := 13) (oi := ({ dst := Option.some 23, op := Go.Op.fieldAddr 46 (Go.Operand.tmp 3) 3, type := 0, pos := "coordinator.go:83", after := #[{ on := 12, ground := Go.Ground.guard }], guard := Option.some (12, Bool.false) } : Oper)) (v := ?v13x20) rfl (by kernel_rfl) (by kernel_rfl) (by kernel_rfl) (fun _ _ _ h => h) (Or.inl ⟨by rfl, ?hy13x20⟩) hSS ?rest13x20
  case hy13x20 =>
    intro W0 hSw
    obtain ⟨s0, s1, s2, s3, s4, s5⟩ := hSw
    go_simp
    first | done | with_reducible rfl
  try simp only [Act.put, List.setIfInBounds_toArray, List.set_cons_zero, List.set_cons_succ]
  refine wpAnyH_take (i := 14) (oi := ({ dst := Option.some 24, op := Go.Op.load 3 (Go.Operand.tmp 23), type := 3, pos := "coordinator.go:83", after := #[{ on := 13, ground := Go.Ground.data }, { on := 12, ground := Go.Ground.guard }], guard := Option.some (12, Bool.false) } : Oper)) (v := ?v14x21) rfl (by kernel_rfl) (by kernel_rfl) (by kernel_rfl) (fun _ _ _ h => h) (Or.inl ⟨by rfl, ?hy14x21⟩) hSS ?rest14x21
  case hy14x21 =>
    intro W0 hSw
    obtain ⟨s0, s1, s2, s3, s4, s5⟩ := hSw
    go_simp
    first | done | with_reducible rfl
  try simp only [Act.put, List.setIfInBounds_toArray, List.set_cons_zero, List.set_cons_succ]
  refine wpAnyH_take (i := 15) (oi := ({ dst := Option.some 25, op := Go.Op.binOp Go.BinOp.rem 3 (Go.Operand.tmp 24) (Go.Operand.const (Go.Value.int Go.IntKind.i64 16)) 3, type := 3, pos := "coordinator.go:83", after := #[{ on := 14, ground := Go.Ground.data }, { on := 12, ground := Go.Ground.guard }], guard := Option.some (12, Bool.false) } : Oper)) (v := ?v15x22) rfl (by kernel_rfl) (by kernel_rfl) (by kernel_rfl) (fun _ _ _ h => h) (Or.inl ⟨by rfl, ?hy15x22⟩) hSS ?rest15x22
  case hy15x22 =>
    intro W0 hSw
    obtain ⟨s0, s1, s2, s3, s4, s5⟩ := hSw
    go_simp
    first | done | with_reducible rfl
  try simp only [Act.put, List.setIfInBounds_toArray, List.set_cons_zero, List.set_cons_succ]
  refine wpAnyH_take (i := 16) (oi := ({ dst := Option.some 26, op := Go.Op.move (Go.Operand.tmp 0), type := 28, pos := "coordinator.go:83", after := #[{ on := 12, ground := Go.Ground.guard }], guard := Option.some (12, Bool.false) } : Oper)) (v := ?v16x23) rfl (by kernel_rfl) (by kernel_rfl) (by kernel_rfl) (fun _ _ _ h => h) (Or.inl ⟨by rfl, ?hy16x23⟩) hSS ?rest16x23
  case hy16x23 =>
    intro W0 hSw
    obtain ⟨s0, s1, s2, s3, s4, s5⟩ := hSw
    go_simp
    first | done | with_reducible rfl
  try simp only [Act.put, List.setIfInBounds_toArray, List.set_cons_zero, List.set_cons_succ]
  refine wpAnyH_take (i := 17) (oi := ({ dst := Option.some 27, op := Go.Op.nilCheck (Go.Operand.tmp 26), type := 0, pos := "coordinator.go:83", after := #[{ on := 16, ground := Go.Ground.data }, { on := 12, ground := Go.Ground.guard }], guard := Option.some (12, Bool.false) } : Oper)) (v := ?v17x24) rfl (by kernel_rfl) (by kernel_rfl) (by kernel_rfl) (fun _ _ _ h => h) (Or.inl ⟨by rfl, ?hy17x24⟩) hSS ?rest17x24
  case hy17x24 =>
    intro W0 hSw
    obtain ⟨s0, s1, s2, s3, s4, s5⟩ := hSw
    go_simp
    first | done | with_reducible rfl
  try simp only [Act.put, List.setIfInBounds_toArray, List.set_cons_zero, List.set_cons_succ]
  refine wpAnyH_take (i := 18) (oi := ({ dst := Option.some 28, op := Go.Op.fieldAddr 63 (Go.Operand.tmp 27) 0, type := 0, pos := "coordinator.go:83", after := #[{ on := 17, ground := Go.Ground.data }, { on := 12, ground := Go.Ground.guard }], guard := Option.some (12, Bool.false) } : Oper)) (v := ?v18x25) rfl (by kernel_rfl) (by kernel_rfl) (by kernel_rfl) (fun _ _ _ h => h) (Or.inl ⟨by rfl, ?hy18x25⟩) hSS ?rest18x25
  case hy18x25 =>
    intro W0 hSw
    obtain ⟨s0, s1, s2, s3, s4, s5⟩ := hSw
    go_simp
    first | done | with_reducible rfl
  try simp only [Act.put, List.setIfInBounds_toArray, List.set_cons_zero, List.set_cons_succ]
  refine wpAnyH_take (i := 19) (oi := ({ dst := Option.some 29, op := Go.Op.load 3 (Go.Operand.tmp 28), type := 3, pos := "coordinator.go:83", after := #[{ on := 18, ground := Go.Ground.data }, { on := 12, ground := Go.Ground.guard }], guard := Option.some (12, Bool.false) } : Oper)) (v := ?v19x26) rfl (by kernel_rfl) (by kernel_rfl) (by kernel_rfl) (fun _ _ _ h => h) (Or.inl ⟨by rfl, ?hy19x26⟩) hSS ?rest19x26
  case hy19x26 =>
    intro W0 hSw
    obtain ⟨s0, s1, s2, s3, s4, s5⟩ := hSw
    go_simp
    first | done | with_reducible rfl
  try simp only [Act.put, List.setIfInBounds_toArray, List.set_cons_zero, List.set_cons_succ]
  refine wpAnyH_take (i := 20) (oi := ({ dst := Option.some 30, op := Go.Op.binOp Go.BinOp.neq 3 (Go.Operand.tmp 25) (Go.Operand.tmp 29) 3, type := 4, pos := "coordinator.go:83", after := #[{ on := 15, ground := Go.Ground.data }, { on := 19, ground := Go.Ground.data }, { on := 12, ground := Go.Ground.guard }], guard := Option.some (12, Bool.false) } : Oper)) (v := ?v20x27) rfl (by kernel_rfl) (by kernel_rfl) (by kernel_rfl) (fun _ _ _ h => h) (Or.inl ⟨by rfl, ?hy20x27⟩) hSS ?rest20x27
  case hy20x27 =>
    intro W0 hSw
    obtain ⟨s0, s1, s2, s3, s4, s5⟩ := hSw
    go_simp
    first | done | with_reducible rfl
  try simp only [Act.put, List.setIfInBounds_toArray, List.set_cons_zero, List.set_cons_succ]
  refine wpAnyH_take (i := 21) (oi := ({ dst := Option.some 31, op := Go.Op.pick (Go.Operand.tmp 22) (Go.Operand.const (Go.Value.bool Bool.true)) (Go.Operand.tmp 30), type := 4, pos := "coordinator.go:83", after := #[{ on := 12, ground := Go.Ground.data }, { on := 20, ground := Go.Ground.data }], guard := Option.none } : Oper)) (v := ?v21x28) rfl (by kernel_rfl) (by kernel_rfl) (by kernel_rfl) (fun _ _ _ h => h) (Or.inl ⟨by rfl, ?hy21x28⟩) hSS ?rest21x28
  case hy21x28 =>
    intro W0 hSw
    obtain ⟨s0, s1, s2, s3, s4, s5⟩ := hSw
    go_simp
    first | done | with_reducible rfl
  try simp only [Act.put, List.setIfInBounds_toArray, List.set_cons_zero, List.set_cons_succ]
  refine wpAnyH_take (i := 22) (oi := ({ dst := Option.some 9, op := Go.Op.assign (Go.Operand.tmp 31), type := 4, pos := "coordinator.go:83", after := #[{ on := 21, ground := Go.Ground.data }, { on := 12, ground := Go.Ground.chain }], guard := Option.none } : Oper)) (v := ?v22x29) rfl (by kernel_rfl) (by kernel_rfl) (by kernel_rfl) (fun _ _ _ h => h) (Or.inl ⟨by rfl, ?hy22x29⟩) hSS ?rest22x29
  case hy22x29 =>
    intro W0 hSw
    obtain ⟨s0, s1, s2, s3, s4, s5⟩ := hSw
    go_simp
    first | done | with_reducible rfl
  try simp only [Act.put, List.setIfInBounds_toArray, List.set_cons_zero, List.set_cons_succ]
  refine wpAnyH_done (by kernel_rfl) ?_ _
  go_upto_region 5 with fail
  have e2 : (k == 2) = true := by rw [HKK.out]; rfl
  have e3 : (k == 3) = false := by rw [HKK.out]; rfl
  have e4 : (k == 4) = false := by rw [HKK.out]; rfl
  have e7 : (k == 7) = false := by rw [HKK.out]; rfl
  have e8 : (k == 8) = false := by rw [HKK.out]; rfl
  have HS5 : Hid (∀ W, Below W0.heap.size W0 W → (fun W : World => W.cell? ⟨S.c, 5, none⟩ = some (.map (some S.m)) ∧ W.cell? ⟨gl, 3, none⟩ = some (.int .i64 X) ∧ (Instr.lookup 61 (.map (some S.m)) (.int .i64 X) false).run Try.prog W = .ok (.agg #[.int .i64 2, .int .i64 (a : Int), .int .i64 (o : Int), .int .i64 y, .int .i64 s]) W) W) := Lib.hid fun W hb => by
    obtain ⟨_, _, _, _, _, d5, _⟩ := box7_ (HCW.out W hb).box
    obtain ⟨_, _, _, l3, _⟩ := box5 (HL5.out W hb)
    exact ⟨d5, l3, HLK.out W hb⟩
  have hS5 := HS5.out _ (HB1.out.trans ((drew_below w1).mono HB1.out.size))
  clear c5
  refine wp_region_held_drew (S := (fun W : World => W.cell? ⟨S.c, 5, none⟩ = some (.map (some S.m)) ∧ W.cell? ⟨gl, 3, none⟩ = some (.int .i64 X) ∧ (Instr.lookup 61 (.map (some S.m)) (.int .i64 X) false).run Try.prog W = .ok (.agg #[.int .i64 2, .int .i64 (a : Int), .int .i64 (o : Int), .int .i64 y, .int .i64 s]) W)) (by kernel_rfl) hS5 (fun _ => ?_)
  refine wpAnyH_take (i := 0) (oi := ({ dst := Option.some 32, op := Go.Op.move (Go.Operand.tmp 0), type := 28, pos := "coordinator.go:86", after := #[], guard := Option.none } : Oper)) (v := ?v0x30) rfl (by kernel_rfl) (by kernel_rfl) (by kernel_rfl) (fun _ _ _ h => h) (Or.inl ⟨by rfl, ?hy0x30⟩) hS5 ?rest0x30
  case hy0x30 =>
    intro W0 hSw
    obtain ⟨s0, s1, s2⟩ := hSw
    go_simp
    first | done | with_reducible rfl
  try simp only [Act.put, List.setIfInBounds_toArray, List.set_cons_zero, List.set_cons_succ]
  refine wpAnyH_take (i := 1) (oi := ({ dst := Option.some 33, op := Go.Op.nilCheck (Go.Operand.tmp 32), type := 0, pos := "coordinator.go:86", after := #[{ on := 0, ground := Go.Ground.data }], guard := Option.none } : Oper)) (v := ?v1x31) rfl (by kernel_rfl) (by kernel_rfl) (by kernel_rfl) (fun _ _ _ h => h) (Or.inl ⟨by rfl, ?hy1x31⟩) hS5 ?rest1x31
  case hy1x31 =>
    intro W0 hSw
    obtain ⟨s0, s1, s2⟩ := hSw
    go_simp
    first | done | with_reducible rfl
  try simp only [Act.put, List.setIfInBounds_toArray, List.set_cons_zero, List.set_cons_succ]
  refine wpAnyH_take (i := 2) (oi := ({ dst := Option.some 34, op := Go.Op.fieldAddr 63 (Go.Operand.tmp 33) 5, type := 0, pos := "coordinator.go:86", after := #[{ on := 1, ground := Go.Ground.data }], guard := Option.none } : Oper)) (v := ?v2x32) rfl (by kernel_rfl) (by kernel_rfl) (by kernel_rfl) (fun _ _ _ h => h) (Or.inl ⟨by rfl, ?hy2x32⟩) hS5 ?rest2x32
  case hy2x32 =>
    intro W0 hSw
    obtain ⟨s0, s1, s2⟩ := hSw
    go_simp
    first | done | with_reducible rfl
  try simp only [Act.put, List.setIfInBounds_toArray, List.set_cons_zero, List.set_cons_succ]
  refine wpAnyH_take (i := 3) (oi := ({ dst := Option.some 35, op := Go.Op.load 61 (Go.Operand.tmp 34), type := 61, pos := "coordinator.go:86", after := #[{ on := 2, ground := Go.Ground.data }], guard := Option.none } : Oper)) (v := ?v3x33) rfl (by kernel_rfl) (by kernel_rfl) (by kernel_rfl) (fun _ _ _ h => h) (Or.inl ⟨by rfl, ?hy3x33⟩) hS5 ?rest3x33
  case hy3x33 =>
    intro W0 hSw
    obtain ⟨s0, s1, s2⟩ := hSw
    go_simp
    first | done | with_reducible rfl
  try simp only [Act.put, List.setIfInBounds_toArray, List.set_cons_zero, List.set_cons_succ]
  refine wpAnyH_take (i := 4) (oi := ({ dst := Option.some 36, op := Go.Op.fieldAddr 46 (Go.Operand.tmp 3) 3, type := 0, pos := "coordinator.go:86", after := #[], guard := Option.none } : Oper)) (v := ?v4x34) rfl (by kernel_rfl) (by kernel_rfl) (by kernel_rfl) (fun _ _ _ h => h) (Or.inl ⟨by rfl, ?hy4x34⟩) hS5 ?rest4x34
  case hy4x34 =>
    intro W0 hSw
    obtain ⟨s0, s1, s2⟩ := hSw
    go_simp
    first | done | with_reducible rfl
  try simp only [Act.put, List.setIfInBounds_toArray, List.set_cons_zero, List.set_cons_succ]
  refine wpAnyH_take (i := 5) (oi := ({ dst := Option.some 37, op := Go.Op.load 3 (Go.Operand.tmp 36), type := 3, pos := "coordinator.go:86", after := #[{ on := 4, ground := Go.Ground.data }], guard := Option.none } : Oper)) (v := ?v5x35) rfl (by kernel_rfl) (by kernel_rfl) (by kernel_rfl) (fun _ _ _ h => h) (Or.inl ⟨by rfl, ?hy5x35⟩) hS5 ?rest5x35
  case hy5x35 =>
    intro W0 hSw
    obtain ⟨s0, s1, s2⟩ := hSw
    go_simp
    first | done | with_reducible rfl
  try simp only [Act.put, List.setIfInBounds_toArray, List.set_cons_zero, List.set_cons_succ]
  refine wpAnyH_take (i := 6) (oi := ({ dst := Option.some 38, op := Go.Op.lookup 61 (Go.Operand.tmp 35) (Go.Operand.tmp 37) Bool.false, type := 67, pos := "coordinator.go:86", after := #[{ on := 3, ground := Go.Ground.data }, { on := 5, ground := Go.Ground.data }], guard := Option.none } : Oper)) (v := ?v6x36) rfl (by kernel_rfl) (by kernel_rfl) (by kernel_rfl) (fun _ _ _ h => h) (Or.inl ⟨by rfl, ?hy6x36⟩) hS5 ?rest6x36
  case hy6x36 =>
    intro W0 hSw
    obtain ⟨s0, s1, s2⟩ := hSw
    go_simp
    first | done | with_reducible rfl
  try simp only [Act.put, List.setIfInBounds_toArray, List.set_cons_zero, List.set_cons_succ]
  refine wpAnyH_ready (rs := [7]) (by kernel_rfl) (by simp) ?_
  refine AllReadyH.cons (o := ({ dst := Option.some 5, op := Go.Op.alloc 67, type := 0, pos := "coordinator.go:86", after := #[], guard := Option.none } : Oper)) rfl (fun K0 hK0 => ?_) AllReadyH.nil
  go_simp
  refine hK0.out _ _ (HS5.out _ ?hb7) (fun _ => ?_)
  case hb7 => first | exact HB1.out.trans (((alloc_below w1 _).trans ((drew_below _).mono (by simp))).mono HB1.out.size) | exact HB1.out.trans (((drew_below w1).trans (alloc_below w1.drew _)).mono HB1.out.size)
  clear hK0 K0
  try simp only [Act.put, List.setIfInBounds_toArray, List.set_cons_zero, List.set_cons_succ]
  refine wpAnyH_ready (rs := [8]) (by kernel_rfl) (by simp) ?_
  refine AllReadyH.cons (o := ({ dst := Option.none, op := Go.Op.store 67 (Go.Operand.tmp 5) (Go.Operand.tmp 38), type := 0, pos := "coordinator.go:86", after := #[{ on := 7, ground := Go.Ground.data }, { on := 6, ground := Go.Ground.data }, { on := 0, ground := Go.Ground.phase }, { on := 1, ground := Go.Ground.phase }, { on := 2, ground := Go.Ground.phase }, { on := 3, ground := Go.Ground.phase }, { on := 4, ground := Go.Ground.phase }, { on := 5, ground := Go.Ground.phase }, { on := 6, ground := Go.Ground.phase }, { on := 7, ground := Go.Ground.phase }], guard := Option.none } : Oper)) rfl (fun K0 hK0 => ?_) AllReadyH.nil
  go_simp
  refine hK0.out _ _ (HS5.out _ ?hb8) (fun _ => ?_)
  case hb8 => first | exact HB1.out.trans (((alloc_below w1 _).trans ((drew_below _).mono (by simp))).mono HB1.out.size) | exact HB1.out.trans (((drew_below w1).trans (alloc_below w1.drew _)).mono HB1.out.size)
  clear hK0 K0
  try simp only [Act.put, List.setIfInBounds_toArray, List.set_cons_zero, List.set_cons_succ]
  refine wpAnyH_done (by kernel_rfl) ?_ _
  obtain ⟨W5, hW5⟩ : ∃ W5, Hid (W5 = (w1.alloc (.cells #[.int .i64 2, .int .i64 (a : Int), .int .i64 (o : Int), .int .i64 y, .int .i64 s] 67)).drew) := ⟨_, Lib.hid rfl⟩
  rw [← hW5.out]
  have hb5 : Below W0.heap.size W0 W5 := by rw [hW5.out]; exact HB1.out.trans (((alloc_below w1 _).trans ((drew_below _).mono (by simp))).mono HB1.out.size)
  have ht5 : W5.heap[w1.heap.size]? = some (.cells #[.int .i64 2, .int .i64 (a : Int), .int .i64 (o : Int), .int .i64 y, .int .i64 s] 67 (0, 0)) := by rw [hW5.out]; exact heap_alloc_new w1 _
  obtain ⟨l0, l1, l2, l3, l4⟩ := box5 (HL5.out _ hb5)
  obtain ⟨z0, z1, z2, z3, z4⟩ := box5 ht5
  have hcw := HCW.out _ hb5
  have HV := Lib.hid (HVN.out k W5)
  have HB5 := Lib.hid hb5
  clear hb5 ht5 hcw
  go_wp2_with (go_at_call 29; refine HV.out.mono ?_; rintro e1 w6 ⟨rfl, hl⟩
               have HE := Lib.hid (LtT.none HH0.out (HB0.out.trans ((HB5.out.trans (hl.mono HB5.out.size)).mono HB0.out.size)))
               clear hl)
  go_ret
  exact ⟨rfl, HE.out⟩
set_option maxRecDepth 100000 in
set_option maxHeartbeats 16000000 in
theorem hear_of3 {w : World} {B : Nat} {S : CoS} (h : Co w B S) {f x : Nat} (hf16 : f < 16) (hx : x < 1099511627776) (hxn : x % 16 = S.node) {e : Te} (he : findT S.T x = some e) (hes : e.s = 2) (ho : e.o < 65536) (hof : e.o.testBit f = false) :
    Calls Try.prog 14 #[.pointer (some ⟨S.c, 0, none⟩), .agg #[.int .i64 3, .int .i64 (f : Int), .int .i64 (S.node : Int), .int .i64 (x : Int), .slice none 0 0]] w (fun e1 w' => e1 = .returned (.int .i64 0) ∧ LtT w B S S.T [] w') := by
  have hxi : i64ok (x : Int) := by unfold i64ok; omega
  obtain ⟨k, hk⟩ : ∃ k : Int, k = 3 := ⟨_, rfl⟩
  have HRT := Lib.hid (fun W => rightL_any k (f : Int) (S.node : Int) (x : Int) [] none 0 0 rfl (by omega) W (RdI.nil _ _ _))
  rw [right_of (by omega) hf16 h.nod (by omega)] at HRT
  obtain ⟨X, hX⟩ : ∃ X : Int, X = (x : Int) := ⟨_, rfl⟩
  have hX16 : X % 16 = (S.node : Int) := by omega
  have hX17 : X.tmod 16 = (S.node : Int) := by rw [Int.tmod_eq_emod_of_nonneg (by omega)]; exact hX16
  have hX0 : 0 ≤ X := by omega
  have hnn : ((S.node : Int) != (S.node : Int)) = false := by simp
  obtain ⟨gl, hgl⟩ : ∃ gl, gl = w.heap.size := ⟨_, rfl⟩
  obtain ⟨L5, hL5⟩ : ∃ L5, L5 = Obj.cells #[.int .i64 k, .int .i64 (f : Int), .int .i64 (S.node : Int), .int .i64 X, .slice none 0 0] 46 := ⟨_, rfl⟩
  have hb0 := alloc_below w L5
  have hl5 := heap_alloc_new w L5
  obtain ⟨W0, hW0⟩ : ∃ W0, W0 = w.alloc L5 := ⟨_, rfl⟩
  rw [← hW0] at hb0 hl5
  rw [← hgl, hL5] at hl5
  have hc0 := h.below hb0
  have HB0 := Lib.hid hb0
  have HS3 : Hid (∀ W, Below W0.heap.size W0 W → (fun W : World => W.cell? ⟨gl, 0, none⟩ = some (.int .i64 k) ∧ W.cell? ⟨gl, 1, none⟩ = some (.int .i64 (f : Int)) ∧ W.cell? ⟨gl, 2, none⟩ = some (.int .i64 (S.node : Int)) ∧ W.cell? ⟨gl, 3, none⟩ = some (.int .i64 X) ∧ W.cell? ⟨gl, 4, none⟩ = some (.slice none 0 0) ∧ W.cell? ⟨S.c, 0, none⟩ = some (.int .i64 (S.node : Int))) W) := Lib.hid fun W hb => by
    obtain ⟨l0, l1, l2, l3, l4⟩ := box5 ((hb.block gl (lt_of_heap hl5)).trans hl5)
    obtain ⟨d0, _⟩ := box7_ (hc0.below hb).box
    exact ⟨l0, l1, l2, l3, l4, d0⟩
  obtain ⟨n, s0, a, o, y0, t0⟩ := e
  simp only at hes ho hof ⊢
  subst hes
  obtain ⟨y, hy⟩ : ∃ y : Int, y = (y0 : Int) := ⟨_, rfl⟩
  obtain ⟨s, hs⟩ : ∃ s : Int, s = (t0 : Int) := ⟨_, rfl⟩
  have HLK : Hid (∀ W, Below W0.heap.size W0 W → (Instr.lookup 61 (.map (some S.m)) (.int .i64 X) false).run Try.prog W = .ok (.agg #[.int .i64 2, .int .i64 (a : Int), .int .i64 (o : Int), .int .i64 y, .int .i64 s]) W) := Lib.hid fun W hb => by
    have h1 := (hc0.below hb).map.look hxi
    unfold stT at h1
    rw [hX]
    simp only [he, Te.v, teV] at h1
    rw [hy, hs]
    exact h1
  have HH0 := Lib.hid h
  have HVN : Hid (∀ (kk : Int) W, Calls Try.prog 29 #[.pointer (some ⟨S.c, 0, none⟩), .agg #[.int .i64 kk, .int .i64 (f : Int), .int .i64 (S.node : Int), .int .i64 X, .slice none 0 0], .agg #[.int .i64 2, .int .i64 (a : Int), .int .i64 (o : Int), .int .i64 y, .int .i64 s]] W (Ans (.int .i64 0) W)) := Lib.hid fun kk W => vote_off hf16 S.c kk (S.node : Int) X ho hof y s W
  clear he hy hs ho hof
  rw [← hX] at HRT
  rw [← hX, ← hk]
  have HC := Lib.hid (closed_any hc0)
  rw [hW0, hL5] at HC
  have HW0 := Lib.hid hW0
  rw [hL5] at HW0
  have HGL := Lib.hid hgl
  have HXX := Lib.hid hX
  have HCW : Hid (∀ W, Below W0.heap.size W0 W → Co W B S) := Lib.hid fun W hb => hc0.below hb
  have HL5 : Hid (∀ W, Below W0.heap.size W0 W → W.heap[gl]? = some (.cells #[.int .i64 k, .int .i64 (f : Int), .int .i64 (S.node : Int), .int .i64 X, .slice none 0 0] 46 (0, 0))) := Lib.hid fun W hb => (hb.block gl (lt_of_heap hl5)).trans hl5
  obtain ⟨_, _, _, _, _, c5, _⟩ := box7_ hc0.box
  have HKK := Lib.hid hk
  clear h hk hf16 hx hxn hxi hX hb0 hl5 hc0 hW0 hL5 hgl hX16
  go_enter Try.func14, Try.ntmps14
  go_upto_region 3 with (go_at_call 24; refine HC.out.mono ?_; rintro e1 w1 ⟨rfl, rfl⟩)
  rw [← HW0.out]
  have hSS := HS3.out _ (drew_below W0)
  rw [← HGL.out]
  refine wp_region_held_drew (S := (fun W : World => W.cell? ⟨gl, 0, none⟩ = some (.int .i64 k) ∧ W.cell? ⟨gl, 1, none⟩ = some (.int .i64 (f : Int)) ∧ W.cell? ⟨gl, 2, none⟩ = some (.int .i64 (S.node : Int)) ∧ W.cell? ⟨gl, 3, none⟩ = some (.int .i64 X) ∧ W.cell? ⟨gl, 4, none⟩ = some (.slice none 0 0) ∧ W.cell? ⟨S.c, 0, none⟩ = some (.int .i64 (S.node : Int)))) (by kernel_rfl) hSS (fun _ => ?_)
  refine wpAnyH_take (i := 0) (oi := ({ dst := Option.some 10, op := Go.Op.load 46 (Go.Operand.tmp 3), type := 46, pos := "coordinator.go:83", after := #[], guard := Option.none } : Oper)) (v := ?v0x8) rfl (by kernel_rfl) (by kernel_rfl) (by kernel_rfl) (fun _ _ _ h => h) (Or.inl ⟨by rfl, ?hy0x8⟩) hSS ?rest0x8
  case hy0x8 =>
    intro W0 hSw
    obtain ⟨s0, s1, s2, s3, s4, s5⟩ := hSw
    go_simp
    first | done | with_reducible rfl
  try simp only [Act.put, List.setIfInBounds_toArray, List.set_cons_zero, List.set_cons_succ]
  refine wpAnyH_ready (rs := [1]) (by kernel_rfl) (by simp) ?_
  refine AllReadyH.cons (o := ({ dst := Option.some 11, op := Go.Op.call { callee := Go.Callee.value (Go.Operand.func 25), args := #[Go.Operand.tmp 10], argTypes := #[46] }, type := 4, pos := "coordinator.go:83", after := #[{ on := 0, ground := Go.Ground.data }], guard := Option.none } : Oper)) rfl (fun K0 hK0 => ?_) AllReadyH.nil
  go_simp
  go_at_call 25
  refine (HRT.out _).mono ?_
  rintro e1 w1 ⟨rfl, hb1⟩
  have HB1 := Lib.hid ((drew_below W0).trans (Below.mono hb1 (Nat.le_refl _)))
  have hSS := HS3.out _ HB1.out
  clear hb1
  try go_wp2_with fail
  refine hK0.out _ _ hSS (fun _ => ?_)
  clear hK0 K0
  try simp only [Act.put, List.setIfInBounds_toArray, List.set_cons_zero, List.set_cons_succ]
  refine wpAnyH_take (i := 2) (oi := ({ dst := Option.some 12, op := Go.Op.unOp Go.UnOp.not 4 (Go.Operand.tmp 11), type := 4, pos := "coordinator.go:83", after := #[{ on := 1, ground := Go.Ground.data }], guard := Option.none } : Oper)) (v := ?v2x9) rfl (by kernel_rfl) (by kernel_rfl) (by kernel_rfl) (fun _ _ _ h => h) (Or.inl ⟨by rfl, ?hy2x9⟩) hSS ?rest2x9
  case hy2x9 =>
    intro W0 hSw
    obtain ⟨s0, s1, s2, s3, s4, s5⟩ := hSw
    go_simp
    first | done | with_reducible rfl
  try simp only [Act.put, List.setIfInBounds_toArray, List.set_cons_zero, List.set_cons_succ]
  refine wpAnyH_take (i := 3) (oi := ({ dst := Option.some 13, op := Go.Op.move (Go.Operand.tmp 12), type := 4, pos := "coordinator.go:83", after := #[{ on := 2, ground := Go.Ground.data }, { on := 1, ground := Go.Ground.chain }], guard := Option.none } : Oper)) (v := ?v3x10) rfl (by kernel_rfl) (by kernel_rfl) (by kernel_rfl) (fun _ _ _ h => h) (Or.inl ⟨by rfl, ?hy3x10⟩) hSS ?rest3x10
  case hy3x10 =>
    intro W0 hSw
    obtain ⟨s0, s1, s2, s3, s4, s5⟩ := hSw
    go_simp
    first | done | with_reducible rfl
  try simp only [Act.put, List.setIfInBounds_toArray, List.set_cons_zero, List.set_cons_succ]
  refine wpAnyH_take (i := 4) (oi := ({ dst := Option.some 14, op := Go.Op.fieldAddr 46 (Go.Operand.tmp 3) 2, type := 0, pos := "coordinator.go:83", after := #[{ on := 3, ground := Go.Ground.guard }], guard := Option.some (3, Bool.false) } : Oper)) (v := ?v4x11) rfl (by kernel_rfl) (by kernel_rfl) (by kernel_rfl) (fun _ _ _ h => h) (Or.inl ⟨by rfl, ?hy4x11⟩) hSS ?rest4x11
  case hy4x11 =>
    intro W0 hSw
    obtain ⟨s0, s1, s2, s3, s4, s5⟩ := hSw
    go_simp
    first | done | with_reducible rfl
  try simp only [Act.put, List.setIfInBounds_toArray, List.set_cons_zero, List.set_cons_succ]
  refine wpAnyH_take (i := 5) (oi := ({ dst := Option.some 15, op := Go.Op.load 3 (Go.Operand.tmp 14), type := 3, pos := "coordinator.go:83", after := #[{ on := 4, ground := Go.Ground.data }, { on := 3, ground := Go.Ground.guard }], guard := Option.some (3, Bool.false) } : Oper)) (v := ?v5x12) rfl (by kernel_rfl) (by kernel_rfl) (by kernel_rfl) (fun _ _ _ h => h) (Or.inl ⟨by rfl, ?hy5x12⟩) hSS ?rest5x12
  case hy5x12 =>
    intro W0 hSw
    obtain ⟨s0, s1, s2, s3, s4, s5⟩ := hSw
    go_simp
    first | done | with_reducible rfl
  try simp only [Act.put, List.setIfInBounds_toArray, List.set_cons_zero, List.set_cons_succ]
  refine wpAnyH_take (i := 6) (oi := ({ dst := Option.some 16, op := Go.Op.move (Go.Operand.tmp 0), type := 28, pos := "coordinator.go:83", after := #[{ on := 3, ground := Go.Ground.guard }], guard := Option.some (3, Bool.false) } : Oper)) (v := ?v6x13) rfl (by kernel_rfl) (by kernel_rfl) (by kernel_rfl) (fun _ _ _ h => h) (Or.inl ⟨by rfl, ?hy6x13⟩) hSS ?rest6x13
  case hy6x13 =>
    intro W0 hSw
    obtain ⟨s0, s1, s2, s3, s4, s5⟩ := hSw
    go_simp
    first | done | with_reducible rfl
  try simp only [Act.put, List.setIfInBounds_toArray, List.set_cons_zero, List.set_cons_succ]
  refine wpAnyH_take (i := 7) (oi := ({ dst := Option.some 17, op := Go.Op.nilCheck (Go.Operand.tmp 16), type := 0, pos := "coordinator.go:83", after := #[{ on := 6, ground := Go.Ground.data }, { on := 3, ground := Go.Ground.guard }], guard := Option.some (3, Bool.false) } : Oper)) (v := ?v7x14) rfl (by kernel_rfl) (by kernel_rfl) (by kernel_rfl) (fun _ _ _ h => h) (Or.inl ⟨by rfl, ?hy7x14⟩) hSS ?rest7x14
  case hy7x14 =>
    intro W0 hSw
    obtain ⟨s0, s1, s2, s3, s4, s5⟩ := hSw
    go_simp
    first | done | with_reducible rfl
  try simp only [Act.put, List.setIfInBounds_toArray, List.set_cons_zero, List.set_cons_succ]
  refine wpAnyH_take (i := 8) (oi := ({ dst := Option.some 18, op := Go.Op.fieldAddr 63 (Go.Operand.tmp 17) 0, type := 0, pos := "coordinator.go:83", after := #[{ on := 7, ground := Go.Ground.data }, { on := 3, ground := Go.Ground.guard }], guard := Option.some (3, Bool.false) } : Oper)) (v := ?v8x15) rfl (by kernel_rfl) (by kernel_rfl) (by kernel_rfl) (fun _ _ _ h => h) (Or.inl ⟨by rfl, ?hy8x15⟩) hSS ?rest8x15
  case hy8x15 =>
    intro W0 hSw
    obtain ⟨s0, s1, s2, s3, s4, s5⟩ := hSw
    go_simp
    first | done | with_reducible rfl
  try simp only [Act.put, List.setIfInBounds_toArray, List.set_cons_zero, List.set_cons_succ]
  refine wpAnyH_take (i := 9) (oi := ({ dst := Option.some 19, op := Go.Op.load 3 (Go.Operand.tmp 18), type := 3, pos := "coordinator.go:83", after := #[{ on := 8, ground := Go.Ground.data }, { on := 3, ground := Go.Ground.guard }], guard := Option.some (3, Bool.false) } : Oper)) (v := ?v9x16) rfl (by kernel_rfl) (by kernel_rfl) (by kernel_rfl) (fun _ _ _ h => h) (Or.inl ⟨by rfl, ?hy9x16⟩) hSS ?rest9x16
  case hy9x16 =>
    intro W0 hSw
    obtain ⟨s0, s1, s2, s3, s4, s5⟩ := hSw
    go_simp
    first | done | with_reducible rfl
  try simp only [Act.put, List.setIfInBounds_toArray, List.set_cons_zero, List.set_cons_succ]
  refine wpAnyH_take (i := 10) (oi := ({ dst := Option.some 20, op := Go.Op.binOp Go.BinOp.neq 3 (Go.Operand.tmp 15) (Go.Operand.tmp 19) 3, type := 4, pos := "coordinator.go:83", after := #[{ on := 5, ground := Go.Ground.data }, { on := 9, ground := Go.Ground.data }, { on := 3, ground := Go.Ground.guard }], guard := Option.some (3, Bool.false) } : Oper)) (v := ?v10x17) rfl (by kernel_rfl) (by kernel_rfl) (by kernel_rfl) (fun _ _ _ h => h) (Or.inl ⟨by rfl, ?hy10x17⟩) hSS ?rest10x17
  case hy10x17 =>
    intro W0 hSw
    obtain ⟨s0, s1, s2, s3, s4, s5⟩ := hSw
    go_simp
    first | done | with_reducible rfl
  try simp only [Act.put, List.setIfInBounds_toArray, List.set_cons_zero, List.set_cons_succ]
  refine wpAnyH_take (i := 11) (oi := ({ dst := Option.some 21, op := Go.Op.pick (Go.Operand.tmp 13) (Go.Operand.const (Go.Value.bool Bool.true)) (Go.Operand.tmp 20), type := 4, pos := "coordinator.go:83", after := #[{ on := 3, ground := Go.Ground.data }, { on := 10, ground := Go.Ground.data }], guard := Option.none } : Oper)) (v := ?v11x18) rfl (by kernel_rfl) (by kernel_rfl) (by kernel_rfl) (fun _ _ _ h => h) (Or.inl ⟨by rfl, ?hy11x18⟩) hSS ?rest11x18
  case hy11x18 =>
    intro W0 hSw
    obtain ⟨s0, s1, s2, s3, s4, s5⟩ := hSw
    go_simp
    first | done | with_reducible rfl
  try simp only [Act.put, List.setIfInBounds_toArray, List.set_cons_zero, List.set_cons_succ]
  refine wpAnyH_take (i := 12) (oi := ({ dst := Option.some 22, op := Go.Op.move (Go.Operand.tmp 21), type := 4, pos := "coordinator.go:83", after := #[{ on := 11, ground := Go.Ground.data }, { on := 3, ground := Go.Ground.chain }], guard := Option.none } : Oper)) (v := ?v12x19) rfl (by kernel_rfl) (by kernel_rfl) (by kernel_rfl) (fun _ _ _ h => h) (Or.inl ⟨by rfl, ?hy12x19⟩) hSS ?rest12x19
  case hy12x19 =>
    intro W0 hSw
    obtain ⟨s0, s1, s2, s3, s4, s5⟩ := hSw
    go_simp
    first | done | with_reducible rfl
  try simp only [Act.put, List.setIfInBounds_toArray, List.set_cons_zero, List.set_cons_succ]
  refine wpAnyH_take (i := 13) (oi := ({ dst := Option.some 23, op := Go.Op.fieldAddr 46 (Go.Operand.tmp 3) 3, type := 0, pos := "coordinator.go:83", after := #[{ on := 12, ground := Go.Ground.guard }], guard := Option.some (12, Bool.false) } : Oper)) (v := ?v13x20) rfl (by kernel_rfl) (by kernel_rfl) (by kernel_rfl) (fun _ _ _ h => h) (Or.inl ⟨by rfl, ?hy13x20⟩) hSS ?rest13x20
  case hy13x20 =>
    intro W0 hSw
    obtain ⟨s0, s1, s2, s3, s4, s5⟩ := hSw
    go_simp
    first | done | with_reducible rfl
  try simp only [Act.put, List.setIfInBounds_toArray, List.set_cons_zero, List.set_cons_succ]
  refine wpAnyH_take (i := 14) (oi := ({ dst := Option.some 24, op := Go.Op.load 3 (Go.Operand.tmp 23), type := 3, pos := "coordinator.go:83", after := #[{ on := 13, ground := Go.Ground.data }, { on := 12, ground := Go.Ground.guard }], guard := Option.some (12, Bool.false) } : Oper)) (v := ?v14x21) rfl (by kernel_rfl) (by kernel_rfl) (by kernel_rfl) (fun _ _ _ h => h) (Or.inl ⟨by rfl, ?hy14x21⟩) hSS ?rest14x21
  case hy14x21 =>
    intro W0 hSw
    obtain ⟨s0, s1, s2, s3, s4, s5⟩ := hSw
    go_simp
    first | done | with_reducible rfl
  try simp only [Act.put, List.setIfInBounds_toArray, List.set_cons_zero, List.set_cons_succ]
  refine wpAnyH_take (i := 15) (oi := ({ dst := Option.some 25, op := Go.Op.binOp Go.BinOp.rem 3 (Go.Operand.tmp 24) (Go.Operand.const (Go.Value.int Go.IntKind.i64 16)) 3, type := 3, pos := "coordinator.go:83", after := #[{ on := 14, ground := Go.Ground.data }, { on := 12, ground := Go.Ground.guard }], guard := Option.some (12, Bool.false) } : Oper)) (v := ?v15x22) rfl (by kernel_rfl) (by kernel_rfl) (by kernel_rfl) (fun _ _ _ h => h) (Or.inl ⟨by rfl, ?hy15x22⟩) hSS ?rest15x22
  case hy15x22 =>
    intro W0 hSw
    obtain ⟨s0, s1, s2, s3, s4, s5⟩ := hSw
    go_simp
    first | done | with_reducible rfl
  try simp only [Act.put, List.setIfInBounds_toArray, List.set_cons_zero, List.set_cons_succ]
  refine wpAnyH_take (i := 16) (oi := ({ dst := Option.some 26, op := Go.Op.move (Go.Operand.tmp 0), type := 28, pos := "coordinator.go:83", after := #[{ on := 12, ground := Go.Ground.guard }], guard := Option.some (12, Bool.false) } : Oper)) (v := ?v16x23) rfl (by kernel_rfl) (by kernel_rfl) (by kernel_rfl) (fun _ _ _ h => h) (Or.inl ⟨by rfl, ?hy16x23⟩) hSS ?rest16x23
  case hy16x23 =>
    intro W0 hSw
    obtain ⟨s0, s1, s2, s3, s4, s5⟩ := hSw
    go_simp
    first | done | with_reducible rfl
  try simp only [Act.put, List.setIfInBounds_toArray, List.set_cons_zero, List.set_cons_succ]
  refine wpAnyH_take (i := 17) (oi := ({ dst := Option.some 27, op := Go.Op.nilCheck (Go.Operand.tmp 26), type := 0, pos := "coordinator.go:83", after := #[{ on := 16, ground := Go.Ground.data }, { on := 12, ground := Go.Ground.guard }], guard := Option.some (12, Bool.false) } : Oper)) (v := ?v17x24) rfl (by kernel_rfl) (by kernel_rfl) (by kernel_rfl) (fun _ _ _ h => h) (Or.inl ⟨by rfl, ?hy17x24⟩) hSS ?rest17x24
  case hy17x24 =>
    intro W0 hSw
    obtain ⟨s0, s1, s2, s3, s4, s5⟩ := hSw
    go_simp
    first | done | with_reducible rfl
  try simp only [Act.put, List.setIfInBounds_toArray, List.set_cons_zero, List.set_cons_succ]
  refine wpAnyH_take (i := 18) (oi := ({ dst := Option.some 28, op := Go.Op.fieldAddr 63 (Go.Operand.tmp 27) 0, type := 0, pos := "coordinator.go:83", after := #[{ on := 17, ground := Go.Ground.data }, { on := 12, ground := Go.Ground.guard }], guard := Option.some (12, Bool.false) } : Oper)) (v := ?v18x25) rfl (by kernel_rfl) (by kernel_rfl) (by kernel_rfl) (fun _ _ _ h => h) (Or.inl ⟨by rfl, ?hy18x25⟩) hSS ?rest18x25
  case hy18x25 =>
    intro W0 hSw
    obtain ⟨s0, s1, s2, s3, s4, s5⟩ := hSw
    go_simp
    first | done | with_reducible rfl
  try simp only [Act.put, List.setIfInBounds_toArray, List.set_cons_zero, List.set_cons_succ]
  refine wpAnyH_take (i := 19) (oi := ({ dst := Option.some 29, op := Go.Op.load 3 (Go.Operand.tmp 28), type := 3, pos := "coordinator.go:83", after := #[{ on := 18, ground := Go.Ground.data }, { on := 12, ground := Go.Ground.guard }], guard := Option.some (12, Bool.false) } : Oper)) (v := ?v19x26) rfl (by kernel_rfl) (by kernel_rfl) (by kernel_rfl) (fun _ _ _ h => h) (Or.inl ⟨by rfl, ?hy19x26⟩) hSS ?rest19x26
  case hy19x26 =>
    intro W0 hSw
    obtain ⟨s0, s1, s2, s3, s4, s5⟩ := hSw
    go_simp
    first | done | with_reducible rfl
  try simp only [Act.put, List.setIfInBounds_toArray, List.set_cons_zero, List.set_cons_succ]
  refine wpAnyH_take (i := 20) (oi := ({ dst := Option.some 30, op := Go.Op.binOp Go.BinOp.neq 3 (Go.Operand.tmp 25) (Go.Operand.tmp 29) 3, type := 4, pos := "coordinator.go:83", after := #[{ on := 15, ground := Go.Ground.data }, { on := 19, ground := Go.Ground.data }, { on := 12, ground := Go.Ground.guard }], guard := Option.some (12, Bool.false) } : Oper)) (v := ?v20x27) rfl (by kernel_rfl) (by kernel_rfl) (by kernel_rfl) (fun _ _ _ h => h) (Or.inl ⟨by rfl, ?hy20x27⟩) hSS ?rest20x27
  case hy20x27 =>
    intro W0 hSw
    obtain ⟨s0, s1, s2, s3, s4, s5⟩ := hSw
    go_simp
    first | done | with_reducible rfl
  try simp only [Act.put, List.setIfInBounds_toArray, List.set_cons_zero, List.set_cons_succ]
  refine wpAnyH_take (i := 21) (oi := ({ dst := Option.some 31, op := Go.Op.pick (Go.Operand.tmp 22) (Go.Operand.const (Go.Value.bool Bool.true)) (Go.Operand.tmp 30), type := 4, pos := "coordinator.go:83", after := #[{ on := 12, ground := Go.Ground.data }, { on := 20, ground := Go.Ground.data }], guard := Option.none } : Oper)) (v := ?v21x28) rfl (by kernel_rfl) (by kernel_rfl) (by kernel_rfl) (fun _ _ _ h => h) (Or.inl ⟨by rfl, ?hy21x28⟩) hSS ?rest21x28
  case hy21x28 =>
    intro W0 hSw
    obtain ⟨s0, s1, s2, s3, s4, s5⟩ := hSw
    go_simp
    first | done | with_reducible rfl
  try simp only [Act.put, List.setIfInBounds_toArray, List.set_cons_zero, List.set_cons_succ]
  refine wpAnyH_take (i := 22) (oi := ({ dst := Option.some 9, op := Go.Op.assign (Go.Operand.tmp 31), type := 4, pos := "coordinator.go:83", after := #[{ on := 21, ground := Go.Ground.data }, { on := 12, ground := Go.Ground.chain }], guard := Option.none } : Oper)) (v := ?v22x29) rfl (by kernel_rfl) (by kernel_rfl) (by kernel_rfl) (fun _ _ _ h => h) (Or.inl ⟨by rfl, ?hy22x29⟩) hSS ?rest22x29
  case hy22x29 =>
    intro W0 hSw
    obtain ⟨s0, s1, s2, s3, s4, s5⟩ := hSw
    go_simp
    first | done | with_reducible rfl
  try simp only [Act.put, List.setIfInBounds_toArray, List.set_cons_zero, List.set_cons_succ]
  refine wpAnyH_done (by kernel_rfl) ?_ _
  go_upto_region 5 with fail
  have e2 : (k == 2) = false := by rw [HKK.out]; rfl
  have e3 : (k == 3) = true := by rw [HKK.out]; rfl
  have e4 : (k == 4) = false := by rw [HKK.out]; rfl
  have e7 : (k == 7) = false := by rw [HKK.out]; rfl
  have e8 : (k == 8) = false := by rw [HKK.out]; rfl
  have HS5 : Hid (∀ W, Below W0.heap.size W0 W → (fun W : World => W.cell? ⟨S.c, 5, none⟩ = some (.map (some S.m)) ∧ W.cell? ⟨gl, 3, none⟩ = some (.int .i64 X) ∧ (Instr.lookup 61 (.map (some S.m)) (.int .i64 X) false).run Try.prog W = .ok (.agg #[.int .i64 2, .int .i64 (a : Int), .int .i64 (o : Int), .int .i64 y, .int .i64 s]) W) W) := Lib.hid fun W hb => by
    obtain ⟨_, _, _, _, _, d5, _⟩ := box7_ (HCW.out W hb).box
    obtain ⟨_, _, _, l3, _⟩ := box5 (HL5.out W hb)
    exact ⟨d5, l3, HLK.out W hb⟩
  have hS5 := HS5.out _ (HB1.out.trans ((drew_below w1).mono HB1.out.size))
  clear c5
  refine wp_region_held_drew (S := (fun W : World => W.cell? ⟨S.c, 5, none⟩ = some (.map (some S.m)) ∧ W.cell? ⟨gl, 3, none⟩ = some (.int .i64 X) ∧ (Instr.lookup 61 (.map (some S.m)) (.int .i64 X) false).run Try.prog W = .ok (.agg #[.int .i64 2, .int .i64 (a : Int), .int .i64 (o : Int), .int .i64 y, .int .i64 s]) W)) (by kernel_rfl) hS5 (fun _ => ?_)
  refine wpAnyH_take (i := 0) (oi := ({ dst := Option.some 32, op := Go.Op.move (Go.Operand.tmp 0), type := 28, pos := "coordinator.go:86", after := #[], guard := Option.none } : Oper)) (v := ?v0x30) rfl (by kernel_rfl) (by kernel_rfl) (by kernel_rfl) (fun _ _ _ h => h) (Or.inl ⟨by rfl, ?hy0x30⟩) hS5 ?rest0x30
  case hy0x30 =>
    intro W0 hSw
    obtain ⟨s0, s1, s2⟩ := hSw
    go_simp
    first | done | with_reducible rfl
  try simp only [Act.put, List.setIfInBounds_toArray, List.set_cons_zero, List.set_cons_succ]
  refine wpAnyH_take (i := 1) (oi := ({ dst := Option.some 33, op := Go.Op.nilCheck (Go.Operand.tmp 32), type := 0, pos := "coordinator.go:86", after := #[{ on := 0, ground := Go.Ground.data }], guard := Option.none } : Oper)) (v := ?v1x31) rfl (by kernel_rfl) (by kernel_rfl) (by kernel_rfl) (fun _ _ _ h => h) (Or.inl ⟨by rfl, ?hy1x31⟩) hS5 ?rest1x31
  case hy1x31 =>
    intro W0 hSw
    obtain ⟨s0, s1, s2⟩ := hSw
    go_simp
    first | done | with_reducible rfl
  try simp only [Act.put, List.setIfInBounds_toArray, List.set_cons_zero, List.set_cons_succ]
  refine wpAnyH_take (i := 2) (oi := ({ dst := Option.some 34, op := Go.Op.fieldAddr 63 (Go.Operand.tmp 33) 5, type := 0, pos := "coordinator.go:86", after := #[{ on := 1, ground := Go.Ground.data }], guard := Option.none } : Oper)) (v := ?v2x32) rfl (by kernel_rfl) (by kernel_rfl) (by kernel_rfl) (fun _ _ _ h => h) (Or.inl ⟨by rfl, ?hy2x32⟩) hS5 ?rest2x32
  case hy2x32 =>
    intro W0 hSw
    obtain ⟨s0, s1, s2⟩ := hSw
    go_simp
    first | done | with_reducible rfl
  try simp only [Act.put, List.setIfInBounds_toArray, List.set_cons_zero, List.set_cons_succ]
  refine wpAnyH_take (i := 3) (oi := ({ dst := Option.some 35, op := Go.Op.load 61 (Go.Operand.tmp 34), type := 61, pos := "coordinator.go:86", after := #[{ on := 2, ground := Go.Ground.data }], guard := Option.none } : Oper)) (v := ?v3x33) rfl (by kernel_rfl) (by kernel_rfl) (by kernel_rfl) (fun _ _ _ h => h) (Or.inl ⟨by rfl, ?hy3x33⟩) hS5 ?rest3x33
  case hy3x33 =>
    intro W0 hSw
    obtain ⟨s0, s1, s2⟩ := hSw
    go_simp
    first | done | with_reducible rfl
  try simp only [Act.put, List.setIfInBounds_toArray, List.set_cons_zero, List.set_cons_succ]
  refine wpAnyH_take (i := 4) (oi := ({ dst := Option.some 36, op := Go.Op.fieldAddr 46 (Go.Operand.tmp 3) 3, type := 0, pos := "coordinator.go:86", after := #[], guard := Option.none } : Oper)) (v := ?v4x34) rfl (by kernel_rfl) (by kernel_rfl) (by kernel_rfl) (fun _ _ _ h => h) (Or.inl ⟨by rfl, ?hy4x34⟩) hS5 ?rest4x34
  case hy4x34 =>
    intro W0 hSw
    obtain ⟨s0, s1, s2⟩ := hSw
    go_simp
    first | done | with_reducible rfl
  try simp only [Act.put, List.setIfInBounds_toArray, List.set_cons_zero, List.set_cons_succ]
  refine wpAnyH_take (i := 5) (oi := ({ dst := Option.some 37, op := Go.Op.load 3 (Go.Operand.tmp 36), type := 3, pos := "coordinator.go:86", after := #[{ on := 4, ground := Go.Ground.data }], guard := Option.none } : Oper)) (v := ?v5x35) rfl (by kernel_rfl) (by kernel_rfl) (by kernel_rfl) (fun _ _ _ h => h) (Or.inl ⟨by rfl, ?hy5x35⟩) hS5 ?rest5x35
  case hy5x35 =>
    intro W0 hSw
    obtain ⟨s0, s1, s2⟩ := hSw
    go_simp
    first | done | with_reducible rfl
  try simp only [Act.put, List.setIfInBounds_toArray, List.set_cons_zero, List.set_cons_succ]
  refine wpAnyH_take (i := 6) (oi := ({ dst := Option.some 38, op := Go.Op.lookup 61 (Go.Operand.tmp 35) (Go.Operand.tmp 37) Bool.false, type := 67, pos := "coordinator.go:86", after := #[{ on := 3, ground := Go.Ground.data }, { on := 5, ground := Go.Ground.data }], guard := Option.none } : Oper)) (v := ?v6x36) rfl (by kernel_rfl) (by kernel_rfl) (by kernel_rfl) (fun _ _ _ h => h) (Or.inl ⟨by rfl, ?hy6x36⟩) hS5 ?rest6x36
  case hy6x36 =>
    intro W0 hSw
    obtain ⟨s0, s1, s2⟩ := hSw
    go_simp
    first | done | with_reducible rfl
  try simp only [Act.put, List.setIfInBounds_toArray, List.set_cons_zero, List.set_cons_succ]
  refine wpAnyH_ready (rs := [7]) (by kernel_rfl) (by simp) ?_
  refine AllReadyH.cons (o := ({ dst := Option.some 5, op := Go.Op.alloc 67, type := 0, pos := "coordinator.go:86", after := #[], guard := Option.none } : Oper)) rfl (fun K0 hK0 => ?_) AllReadyH.nil
  go_simp
  refine hK0.out _ _ (HS5.out _ ?hb7) (fun _ => ?_)
  case hb7 => first | exact HB1.out.trans (((alloc_below w1 _).trans ((drew_below _).mono (by simp))).mono HB1.out.size) | exact HB1.out.trans (((drew_below w1).trans (alloc_below w1.drew _)).mono HB1.out.size)
  clear hK0 K0
  try simp only [Act.put, List.setIfInBounds_toArray, List.set_cons_zero, List.set_cons_succ]
  refine wpAnyH_ready (rs := [8]) (by kernel_rfl) (by simp) ?_
  refine AllReadyH.cons (o := ({ dst := Option.none, op := Go.Op.store 67 (Go.Operand.tmp 5) (Go.Operand.tmp 38), type := 0, pos := "coordinator.go:86", after := #[{ on := 7, ground := Go.Ground.data }, { on := 6, ground := Go.Ground.data }, { on := 0, ground := Go.Ground.phase }, { on := 1, ground := Go.Ground.phase }, { on := 2, ground := Go.Ground.phase }, { on := 3, ground := Go.Ground.phase }, { on := 4, ground := Go.Ground.phase }, { on := 5, ground := Go.Ground.phase }, { on := 6, ground := Go.Ground.phase }, { on := 7, ground := Go.Ground.phase }], guard := Option.none } : Oper)) rfl (fun K0 hK0 => ?_) AllReadyH.nil
  go_simp
  refine hK0.out _ _ (HS5.out _ ?hb8) (fun _ => ?_)
  case hb8 => first | exact HB1.out.trans (((alloc_below w1 _).trans ((drew_below _).mono (by simp))).mono HB1.out.size) | exact HB1.out.trans (((drew_below w1).trans (alloc_below w1.drew _)).mono HB1.out.size)
  clear hK0 K0
  try simp only [Act.put, List.setIfInBounds_toArray, List.set_cons_zero, List.set_cons_succ]
  refine wpAnyH_done (by kernel_rfl) ?_ _
  obtain ⟨W5, hW5⟩ : ∃ W5, Hid (W5 = (w1.alloc (.cells #[.int .i64 2, .int .i64 (a : Int), .int .i64 (o : Int), .int .i64 y, .int .i64 s] 67)).drew) := ⟨_, Lib.hid rfl⟩
  rw [← hW5.out]
  have hb5 : Below W0.heap.size W0 W5 := by rw [hW5.out]; exact HB1.out.trans (((alloc_below w1 _).trans ((drew_below _).mono (by simp))).mono HB1.out.size)
  have ht5 : W5.heap[w1.heap.size]? = some (.cells #[.int .i64 2, .int .i64 (a : Int), .int .i64 (o : Int), .int .i64 y, .int .i64 s] 67 (0, 0)) := by rw [hW5.out]; exact heap_alloc_new w1 _
  obtain ⟨l0, l1, l2, l3, l4⟩ := box5 (HL5.out _ hb5)
  obtain ⟨z0, z1, z2, z3, z4⟩ := box5 ht5
  have hcw := HCW.out _ hb5
  have HV := Lib.hid (HVN.out k W5)
  have HB5 := Lib.hid hb5
  clear hb5 ht5 hcw
  go_wp2_with (go_at_call 29; refine HV.out.mono ?_; rintro e1 w6 ⟨rfl, hl⟩
               have HE := Lib.hid (LtT.none HH0.out (HB0.out.trans ((HB5.out.trans (hl.mono HB5.out.size)).mono HB0.out.size)))
               clear hl)
  go_ret
  exact ⟨rfl, HE.out⟩
set_option maxRecDepth 100000 in
set_option maxHeartbeats 16000000 in
theorem hear_of4 {w : World} {B : Nat} {S : CoS} (h : Co w B S) {f x : Nat} (hf16 : f < 16) (hx : x < 1099511627776) (hxn : x % 16 = S.node) {e : Te} (he : findT S.T x = some e) (hes : e.s = 2) (ho : e.o < 65536) (hof : e.o.testBit f = false) :
    Calls Try.prog 14 #[.pointer (some ⟨S.c, 0, none⟩), .agg #[.int .i64 4, .int .i64 (f : Int), .int .i64 (S.node : Int), .int .i64 (x : Int), .slice none 0 0]] w (fun e1 w' => e1 = .returned (.int .i64 0) ∧ LtT w B S S.T [] w') := by
  have hxi : i64ok (x : Int) := by unfold i64ok; omega
  obtain ⟨k, hk⟩ : ∃ k : Int, k = 4 := ⟨_, rfl⟩
  have HRT := Lib.hid (fun W => rightL_any k (f : Int) (S.node : Int) (x : Int) [] none 0 0 rfl (by omega) W (RdI.nil _ _ _))
  rw [right_of (by omega) hf16 h.nod (by omega)] at HRT
  obtain ⟨X, hX⟩ : ∃ X : Int, X = (x : Int) := ⟨_, rfl⟩
  have hX16 : X % 16 = (S.node : Int) := by omega
  have hX17 : X.tmod 16 = (S.node : Int) := by rw [Int.tmod_eq_emod_of_nonneg (by omega)]; exact hX16
  have hX0 : 0 ≤ X := by omega
  have hnn : ((S.node : Int) != (S.node : Int)) = false := by simp
  obtain ⟨gl, hgl⟩ : ∃ gl, gl = w.heap.size := ⟨_, rfl⟩
  obtain ⟨L5, hL5⟩ : ∃ L5, L5 = Obj.cells #[.int .i64 k, .int .i64 (f : Int), .int .i64 (S.node : Int), .int .i64 X, .slice none 0 0] 46 := ⟨_, rfl⟩
  have hb0 := alloc_below w L5
  have hl5 := heap_alloc_new w L5
  obtain ⟨W0, hW0⟩ : ∃ W0, W0 = w.alloc L5 := ⟨_, rfl⟩
  rw [← hW0] at hb0 hl5
  rw [← hgl, hL5] at hl5
  have hc0 := h.below hb0
  have HB0 := Lib.hid hb0
  have HS3 : Hid (∀ W, Below W0.heap.size W0 W → (fun W : World => W.cell? ⟨gl, 0, none⟩ = some (.int .i64 k) ∧ W.cell? ⟨gl, 1, none⟩ = some (.int .i64 (f : Int)) ∧ W.cell? ⟨gl, 2, none⟩ = some (.int .i64 (S.node : Int)) ∧ W.cell? ⟨gl, 3, none⟩ = some (.int .i64 X) ∧ W.cell? ⟨gl, 4, none⟩ = some (.slice none 0 0) ∧ W.cell? ⟨S.c, 0, none⟩ = some (.int .i64 (S.node : Int))) W) := Lib.hid fun W hb => by
    obtain ⟨l0, l1, l2, l3, l4⟩ := box5 ((hb.block gl (lt_of_heap hl5)).trans hl5)
    obtain ⟨d0, _⟩ := box7_ (hc0.below hb).box
    exact ⟨l0, l1, l2, l3, l4, d0⟩
  obtain ⟨n, s0, a, o, y0, t0⟩ := e
  simp only at hes ho hof ⊢
  subst hes
  obtain ⟨y, hy⟩ : ∃ y : Int, y = (y0 : Int) := ⟨_, rfl⟩
  obtain ⟨s, hs⟩ : ∃ s : Int, s = (t0 : Int) := ⟨_, rfl⟩
  have HLK : Hid (∀ W, Below W0.heap.size W0 W → (Instr.lookup 61 (.map (some S.m)) (.int .i64 X) false).run Try.prog W = .ok (.agg #[.int .i64 2, .int .i64 (a : Int), .int .i64 (o : Int), .int .i64 y, .int .i64 s]) W) := Lib.hid fun W hb => by
    have h1 := (hc0.below hb).map.look hxi
    unfold stT at h1
    rw [hX]
    simp only [he, Te.v, teV] at h1
    rw [hy, hs]
    exact h1
  have HH0 := Lib.hid h
  have HVN : Hid (∀ (kk : Int) W, Calls Try.prog 29 #[.pointer (some ⟨S.c, 0, none⟩), .agg #[.int .i64 kk, .int .i64 (f : Int), .int .i64 (S.node : Int), .int .i64 X, .slice none 0 0], .agg #[.int .i64 2, .int .i64 (a : Int), .int .i64 (o : Int), .int .i64 y, .int .i64 s]] W (Ans (.int .i64 0) W)) := Lib.hid fun kk W => vote_off hf16 S.c kk (S.node : Int) X ho hof y s W
  clear he hy hs ho hof
  rw [← hX] at HRT
  rw [← hX, ← hk]
  have HC := Lib.hid (closed_any hc0)
  rw [hW0, hL5] at HC
  have HW0 := Lib.hid hW0
  rw [hL5] at HW0
  have HGL := Lib.hid hgl
  have HXX := Lib.hid hX
  have HCW : Hid (∀ W, Below W0.heap.size W0 W → Co W B S) := Lib.hid fun W hb => hc0.below hb
  have HL5 : Hid (∀ W, Below W0.heap.size W0 W → W.heap[gl]? = some (.cells #[.int .i64 k, .int .i64 (f : Int), .int .i64 (S.node : Int), .int .i64 X, .slice none 0 0] 46 (0, 0))) := Lib.hid fun W hb => (hb.block gl (lt_of_heap hl5)).trans hl5
  obtain ⟨_, _, _, _, _, c5, _⟩ := box7_ hc0.box
  have HKK := Lib.hid hk
  clear h hk hf16 hx hxn hxi hX hb0 hl5 hc0 hW0 hL5 hgl hX16
  go_enter Try.func14, Try.ntmps14
  go_upto_region 3 with (go_at_call 24; refine HC.out.mono ?_; rintro e1 w1 ⟨rfl, rfl⟩)
  rw [← HW0.out]
  have hSS := HS3.out _ (drew_below W0)
  rw [← HGL.out]
  refine wp_region_held_drew (S := (fun W : World => W.cell? ⟨gl, 0, none⟩ = some (.int .i64 k) ∧ W.cell? ⟨gl, 1, none⟩ = some (.int .i64 (f : Int)) ∧ W.cell? ⟨gl, 2, none⟩ = some (.int .i64 (S.node : Int)) ∧ W.cell? ⟨gl, 3, none⟩ = some (.int .i64 X) ∧ W.cell? ⟨gl, 4, none⟩ = some (.slice none 0 0) ∧ W.cell? ⟨S.c, 0, none⟩ = some (.int .i64 (S.node : Int)))) (by kernel_rfl) hSS (fun _ => ?_)
  refine wpAnyH_take (i := 0) (oi := ({ dst := Option.some 10, op := Go.Op.load 46 (Go.Operand.tmp 3), type := 46, pos := "coordinator.go:83", after := #[], guard := Option.none } : Oper)) (v := ?v0x8) rfl (by kernel_rfl) (by kernel_rfl) (by kernel_rfl) (fun _ _ _ h => h) (Or.inl ⟨by rfl, ?hy0x8⟩) hSS ?rest0x8
  case hy0x8 =>
    intro W0 hSw
    obtain ⟨s0, s1, s2, s3, s4, s5⟩ := hSw
    go_simp
    first | done | with_reducible rfl
  try simp only [Act.put, List.setIfInBounds_toArray, List.set_cons_zero, List.set_cons_succ]
  refine wpAnyH_ready (rs := [1]) (by kernel_rfl) (by simp) ?_
  refine AllReadyH.cons (o := ({ dst := Option.some 11, op := Go.Op.call { callee := Go.Callee.value (Go.Operand.func 25), args := #[Go.Operand.tmp 10], argTypes := #[46] }, type := 4, pos := "coordinator.go:83", after := #[{ on := 0, ground := Go.Ground.data }], guard := Option.none } : Oper)) rfl (fun K0 hK0 => ?_) AllReadyH.nil
  go_simp
  go_at_call 25
  refine (HRT.out _).mono ?_
  rintro e1 w1 ⟨rfl, hb1⟩
  have HB1 := Lib.hid ((drew_below W0).trans (Below.mono hb1 (Nat.le_refl _)))
  have hSS := HS3.out _ HB1.out
  clear hb1
  try go_wp2_with fail
  refine hK0.out _ _ hSS (fun _ => ?_)
  clear hK0 K0
  try simp only [Act.put, List.setIfInBounds_toArray, List.set_cons_zero, List.set_cons_succ]
  refine wpAnyH_take (i := 2) (oi := ({ dst := Option.some 12, op := Go.Op.unOp Go.UnOp.not 4 (Go.Operand.tmp 11), type := 4, pos := "coordinator.go:83", after := #[{ on := 1, ground := Go.Ground.data }], guard := Option.none } : Oper)) (v := ?v2x9) rfl (by kernel_rfl) (by kernel_rfl) (by kernel_rfl) (fun _ _ _ h => h) (Or.inl ⟨by rfl, ?hy2x9⟩) hSS ?rest2x9
  case hy2x9 =>
    intro W0 hSw
    obtain ⟨s0, s1, s2, s3, s4, s5⟩ := hSw
    go_simp
    first | done | with_reducible rfl
  try simp only [Act.put, List.setIfInBounds_toArray, List.set_cons_zero, List.set_cons_succ]
  refine wpAnyH_take (i := 3) (oi := ({ dst := Option.some 13, op := Go.Op.move (Go.Operand.tmp 12), type := 4, pos := "coordinator.go:83", after := #[{ on := 2, ground := Go.Ground.data }, { on := 1, ground := Go.Ground.chain }], guard := Option.none } : Oper)) (v := ?v3x10) rfl (by kernel_rfl) (by kernel_rfl) (by kernel_rfl) (fun _ _ _ h => h) (Or.inl ⟨by rfl, ?hy3x10⟩) hSS ?rest3x10
  case hy3x10 =>
    intro W0 hSw
    obtain ⟨s0, s1, s2, s3, s4, s5⟩ := hSw
    go_simp
    first | done | with_reducible rfl
  try simp only [Act.put, List.setIfInBounds_toArray, List.set_cons_zero, List.set_cons_succ]
  refine wpAnyH_take (i := 4) (oi := ({ dst := Option.some 14, op := Go.Op.fieldAddr 46 (Go.Operand.tmp 3) 2, type := 0, pos := "coordinator.go:83", after := #[{ on := 3, ground := Go.Ground.guard }], guard := Option.some (3, Bool.false) } : Oper)) (v := ?v4x11) rfl (by kernel_rfl) (by kernel_rfl) (by kernel_rfl) (fun _ _ _ h => h) (Or.inl ⟨by rfl, ?hy4x11⟩) hSS ?rest4x11
  case hy4x11 =>
    intro W0 hSw
    obtain ⟨s0, s1, s2, s3, s4, s5⟩ := hSw
    go_simp
    first | done | with_reducible rfl
  try simp only [Act.put, List.setIfInBounds_toArray, List.set_cons_zero, List.set_cons_succ]
  refine wpAnyH_take (i := 5) (oi := ({ dst := Option.some 15, op := Go.Op.load 3 (Go.Operand.tmp 14), type := 3, pos := "coordinator.go:83", after := #[{ on := 4, ground := Go.Ground.data }, { on := 3, ground := Go.Ground.guard }], guard := Option.some (3, Bool.false) } : Oper)) (v := ?v5x12) rfl (by kernel_rfl) (by kernel_rfl) (by kernel_rfl) (fun _ _ _ h => h) (Or.inl ⟨by rfl, ?hy5x12⟩) hSS ?rest5x12
  case hy5x12 =>
    intro W0 hSw
    obtain ⟨s0, s1, s2, s3, s4, s5⟩ := hSw
    go_simp
    first | done | with_reducible rfl
  try simp only [Act.put, List.setIfInBounds_toArray, List.set_cons_zero, List.set_cons_succ]
  refine wpAnyH_take (i := 6) (oi := ({ dst := Option.some 16, op := Go.Op.move (Go.Operand.tmp 0), type := 28, pos := "coordinator.go:83", after := #[{ on := 3, ground := Go.Ground.guard }], guard := Option.some (3, Bool.false) } : Oper)) (v := ?v6x13) rfl (by kernel_rfl) (by kernel_rfl) (by kernel_rfl) (fun _ _ _ h => h) (Or.inl ⟨by rfl, ?hy6x13⟩) hSS ?rest6x13
  case hy6x13 =>
    intro W0 hSw
    obtain ⟨s0, s1, s2, s3, s4, s5⟩ := hSw
    go_simp
    first | done | with_reducible rfl
  try simp only [Act.put, List.setIfInBounds_toArray, List.set_cons_zero, List.set_cons_succ]
  refine wpAnyH_take (i := 7) (oi := ({ dst := Option.some 17, op := Go.Op.nilCheck (Go.Operand.tmp 16), type := 0, pos := "coordinator.go:83", after := #[{ on := 6, ground := Go.Ground.data }, { on := 3, ground := Go.Ground.guard }], guard := Option.some (3, Bool.false) } : Oper)) (v := ?v7x14) rfl (by kernel_rfl) (by kernel_rfl) (by kernel_rfl) (fun _ _ _ h => h) (Or.inl ⟨by rfl, ?hy7x14⟩) hSS ?rest7x14
  case hy7x14 =>
    intro W0 hSw
    obtain ⟨s0, s1, s2, s3, s4, s5⟩ := hSw
    go_simp
    first | done | with_reducible rfl
  try simp only [Act.put, List.setIfInBounds_toArray, List.set_cons_zero, List.set_cons_succ]
  refine wpAnyH_take (i := 8) (oi := ({ dst := Option.some 18, op := Go.Op.fieldAddr 63 (Go.Operand.tmp 17) 0, type := 0, pos := "coordinator.go:83", after := #[{ on := 7, ground := Go.Ground.data }, { on := 3, ground := Go.Ground.guard }], guard := Option.some (3, Bool.false) } : Oper)) (v := ?v8x15) rfl (by kernel_rfl) (by kernel_rfl) (by kernel_rfl) (fun _ _ _ h => h) (Or.inl ⟨by rfl, ?hy8x15⟩) hSS ?rest8x15
  case hy8x15 =>
    intro W0 hSw
    obtain ⟨s0, s1, s2, s3, s4, s5⟩ := hSw
    go_simp
    first | done | with_reducible rfl
  try simp only [Act.put, List.setIfInBounds_toArray, List.set_cons_zero, List.set_cons_succ]
  refine wpAnyH_take (i := 9) (oi := ({ dst := Option.some 19, op := Go.Op.load 3 (Go.Operand.tmp 18), type := 3, pos := "coordinator.go:83", after := #[{ on := 8, ground := Go.Ground.data }, { on := 3, ground := Go.Ground.guard }], guard := Option.some (3, Bool.false) } : Oper)) (v := ?v9x16) rfl (by kernel_rfl) (by kernel_rfl) (by kernel_rfl) (fun _ _ _ h => h) (Or.inl ⟨by rfl, ?hy9x16⟩) hSS ?rest9x16
  case hy9x16 =>
    intro W0 hSw
    obtain ⟨s0, s1, s2, s3, s4, s5⟩ := hSw
    go_simp
    first | done | with_reducible rfl
  try simp only [Act.put, List.setIfInBounds_toArray, List.set_cons_zero, List.set_cons_succ]
  refine wpAnyH_take (i := 10) (oi := ({ dst := Option.some 20, op := Go.Op.binOp Go.BinOp.neq 3 (Go.Operand.tmp 15) (Go.Operand.tmp 19) 3, type := 4, pos := "coordinator.go:83", after := #[{ on := 5, ground := Go.Ground.data }, { on := 9, ground := Go.Ground.data }, { on := 3, ground := Go.Ground.guard }], guard := Option.some (3, Bool.false) } : Oper)) (v := ?v10x17) rfl (by kernel_rfl) (by kernel_rfl) (by kernel_rfl) (fun _ _ _ h => h) (Or.inl ⟨by rfl, ?hy10x17⟩) hSS ?rest10x17
  case hy10x17 =>
    intro W0 hSw
    obtain ⟨s0, s1, s2, s3, s4, s5⟩ := hSw
    go_simp
    first | done | with_reducible rfl
  try simp only [Act.put, List.setIfInBounds_toArray, List.set_cons_zero, List.set_cons_succ]
  refine wpAnyH_take (i := 11) (oi := ({ dst := Option.some 21, op := Go.Op.pick (Go.Operand.tmp 13) (Go.Operand.const (Go.Value.bool Bool.true)) (Go.Operand.tmp 20), type := 4, pos := "coordinator.go:83", after := #[{ on := 3, ground := Go.Ground.data }, { on := 10, ground := Go.Ground.data }], guard := Option.none } : Oper)) (v := ?v11x18) rfl (by kernel_rfl) (by kernel_rfl) (by kernel_rfl) (fun _ _ _ h => h) (Or.inl ⟨by rfl, ?hy11x18⟩) hSS ?rest11x18
  case hy11x18 =>
    intro W0 hSw
    obtain ⟨s0, s1, s2, s3, s4, s5⟩ := hSw
    go_simp
    first | done | with_reducible rfl
  try simp only [Act.put, List.setIfInBounds_toArray, List.set_cons_zero, List.set_cons_succ]
  refine wpAnyH_take (i := 12) (oi := ({ dst := Option.some 22, op := Go.Op.move (Go.Operand.tmp 21), type := 4, pos := "coordinator.go:83", after := #[{ on := 11, ground := Go.Ground.data }, { on := 3, ground := Go.Ground.chain }], guard := Option.none } : Oper)) (v := ?v12x19) rfl (by kernel_rfl) (by kernel_rfl) (by kernel_rfl) (fun _ _ _ h => h) (Or.inl ⟨by rfl, ?hy12x19⟩) hSS ?rest12x19
  case hy12x19 =>
    intro W0 hSw
    obtain ⟨s0, s1, s2, s3, s4, s5⟩ := hSw
    go_simp
    first | done | with_reducible rfl
  try simp only [Act.put, List.setIfInBounds_toArray, List.set_cons_zero, List.set_cons_succ]
  refine wpAnyH_take (i := 13) (oi := ({ dst := Option.some 23, op := Go.Op.fieldAddr 46 (Go.Operand.tmp 3) 3, type := 0, pos := "coordinator.go:83", after := #[{ on := 12, ground := Go.Ground.guard }], guard := Option.some (12, Bool.false) } : Oper)) (v := ?v13x20) rfl (by kernel_rfl) (by kernel_rfl) (by kernel_rfl) (fun _ _ _ h => h) (Or.inl ⟨by rfl, ?hy13x20⟩) hSS ?rest13x20
  case hy13x20 =>
    intro W0 hSw
    obtain ⟨s0, s1, s2, s3, s4, s5⟩ := hSw
    go_simp
    first | done | with_reducible rfl
  try simp only [Act.put, List.setIfInBounds_toArray, List.set_cons_zero, List.set_cons_succ]
  refine wpAnyH_take (i := 14) (oi := ({ dst := Option.some 24, op := Go.Op.load 3 (Go.Operand.tmp 23), type := 3, pos := "coordinator.go:83", after := #[{ on := 13, ground := Go.Ground.data }, { on := 12, ground := Go.Ground.guard }], guard := Option.some (12, Bool.false) } : Oper)) (v := ?v14x21) rfl (by kernel_rfl) (by kernel_rfl) (by kernel_rfl) (fun _ _ _ h => h) (Or.inl ⟨by rfl, ?hy14x21⟩) hSS ?rest14x21
  case hy14x21 =>
    intro W0 hSw
    obtain ⟨s0, s1, s2, s3, s4, s5⟩ := hSw
    go_simp
    first | done | with_reducible rfl
  try simp only [Act.put, List.setIfInBounds_toArray, List.set_cons_zero, List.set_cons_succ]
  refine wpAnyH_take (i := 15) (oi := ({ dst := Option.some 25, op := Go.Op.binOp Go.BinOp.rem 3 (Go.Operand.tmp 24) (Go.Operand.const (Go.Value.int Go.IntKind.i64 16)) 3, type := 3, pos := "coordinator.go:83", after := #[{ on := 14, ground := Go.Ground.data }, { on := 12, ground := Go.Ground.guard }], guard := Option.some (12, Bool.false) } : Oper)) (v := ?v15x22) rfl (by kernel_rfl) (by kernel_rfl) (by kernel_rfl) (fun _ _ _ h => h) (Or.inl ⟨by rfl, ?hy15x22⟩) hSS ?rest15x22
  case hy15x22 =>
    intro W0 hSw
    obtain ⟨s0, s1, s2, s3, s4, s5⟩ := hSw
    go_simp
    first | done | with_reducible rfl
  try simp only [Act.put, List.setIfInBounds_toArray, List.set_cons_zero, List.set_cons_succ]
  refine wpAnyH_take (i := 16) (oi := ({ dst := Option.some 26, op := Go.Op.move (Go.Operand.tmp 0), type := 28, pos := "coordinator.go:83", after := #[{ on := 12, ground := Go.Ground.guard }], guard := Option.some (12, Bool.false) } : Oper)) (v := ?v16x23) rfl (by kernel_rfl) (by kernel_rfl) (by kernel_rfl) (fun _ _ _ h => h) (Or.inl ⟨by rfl, ?hy16x23⟩) hSS ?rest16x23
  case hy16x23 =>
    intro W0 hSw
    obtain ⟨s0, s1, s2, s3, s4, s5⟩ := hSw
    go_simp
    first | done | with_reducible rfl
  try simp only [Act.put, List.setIfInBounds_toArray, List.set_cons_zero, List.set_cons_succ]
  refine wpAnyH_take (i := 17) (oi := ({ dst := Option.some 27, op := Go.Op.nilCheck (Go.Operand.tmp 26), type := 0, pos := "coordinator.go:83", after := #[{ on := 16, ground := Go.Ground.data }, { on := 12, ground := Go.Ground.guard }], guard := Option.some (12, Bool.false) } : Oper)) (v := ?v17x24) rfl (by kernel_rfl) (by kernel_rfl) (by kernel_rfl) (fun _ _ _ h => h) (Or.inl ⟨by rfl, ?hy17x24⟩) hSS ?rest17x24
  case hy17x24 =>
    intro W0 hSw
    obtain ⟨s0, s1, s2, s3, s4, s5⟩ := hSw
    go_simp
    first | done | with_reducible rfl
  try simp only [Act.put, List.setIfInBounds_toArray, List.set_cons_zero, List.set_cons_succ]
  refine wpAnyH_take (i := 18) (oi := ({ dst := Option.some 28, op := Go.Op.fieldAddr 63 (Go.Operand.tmp 27) 0, type := 0, pos := "coordinator.go:83", after := #[{ on := 17, ground := Go.Ground.data }, { on := 12, ground := Go.Ground.guard }], guard := Option.some (12, Bool.false) } : Oper)) (v := ?v18x25) rfl (by kernel_rfl) (by kernel_rfl) (by kernel_rfl) (fun _ _ _ h => h) (Or.inl ⟨by rfl, ?hy18x25⟩) hSS ?rest18x25
  case hy18x25 =>
    intro W0 hSw
    obtain ⟨s0, s1, s2, s3, s4, s5⟩ := hSw
    go_simp
    first | done | with_reducible rfl
  try simp only [Act.put, List.setIfInBounds_toArray, List.set_cons_zero, List.set_cons_succ]
  refine wpAnyH_take (i := 19) (oi := ({ dst := Option.some 29, op := Go.Op.load 3 (Go.Operand.tmp 28), type := 3, pos := "coordinator.go:83", after := #[{ on := 18, ground := Go.Ground.data }, { on := 12, ground := Go.Ground.guard }], guard := Option.some (12, Bool.false) } : Oper)) (v := ?v19x26) rfl (by kernel_rfl) (by kernel_rfl) (by kernel_rfl) (fun _ _ _ h => h) (Or.inl ⟨by rfl, ?hy19x26⟩) hSS ?rest19x26
  case hy19x26 =>
    intro W0 hSw
    obtain ⟨s0, s1, s2, s3, s4, s5⟩ := hSw
    go_simp
    first | done | with_reducible rfl
  try simp only [Act.put, List.setIfInBounds_toArray, List.set_cons_zero, List.set_cons_succ]
  refine wpAnyH_take (i := 20) (oi := ({ dst := Option.some 30, op := Go.Op.binOp Go.BinOp.neq 3 (Go.Operand.tmp 25) (Go.Operand.tmp 29) 3, type := 4, pos := "coordinator.go:83", after := #[{ on := 15, ground := Go.Ground.data }, { on := 19, ground := Go.Ground.data }, { on := 12, ground := Go.Ground.guard }], guard := Option.some (12, Bool.false) } : Oper)) (v := ?v20x27) rfl (by kernel_rfl) (by kernel_rfl) (by kernel_rfl) (fun _ _ _ h => h) (Or.inl ⟨by rfl, ?hy20x27⟩) hSS ?rest20x27
  case hy20x27 =>
    intro W0 hSw
    obtain ⟨s0, s1, s2, s3, s4, s5⟩ := hSw
    go_simp
    first | done | with_reducible rfl
  try simp only [Act.put, List.setIfInBounds_toArray, List.set_cons_zero, List.set_cons_succ]
  refine wpAnyH_take (i := 21) (oi := ({ dst := Option.some 31, op := Go.Op.pick (Go.Operand.tmp 22) (Go.Operand.const (Go.Value.bool Bool.true)) (Go.Operand.tmp 30), type := 4, pos := "coordinator.go:83", after := #[{ on := 12, ground := Go.Ground.data }, { on := 20, ground := Go.Ground.data }], guard := Option.none } : Oper)) (v := ?v21x28) rfl (by kernel_rfl) (by kernel_rfl) (by kernel_rfl) (fun _ _ _ h => h) (Or.inl ⟨by rfl, ?hy21x28⟩) hSS ?rest21x28
  case hy21x28 =>
    intro W0 hSw
    obtain ⟨s0, s1, s2, s3, s4, s5⟩ := hSw
    go_simp
    first | done | with_reducible rfl
  try simp only [Act.put, List.setIfInBounds_toArray, List.set_cons_zero, List.set_cons_succ]
  refine wpAnyH_take (i := 22) (oi := ({ dst := Option.some 9, op := Go.Op.assign (Go.Operand.tmp 31), type := 4, pos := "coordinator.go:83", after := #[{ on := 21, ground := Go.Ground.data }, { on := 12, ground := Go.Ground.chain }], guard := Option.none } : Oper)) (v := ?v22x29) rfl (by kernel_rfl) (by kernel_rfl) (by kernel_rfl) (fun _ _ _ h => h) (Or.inl ⟨by rfl, ?hy22x29⟩) hSS ?rest22x29
  case hy22x29 =>
    intro W0 hSw
    obtain ⟨s0, s1, s2, s3, s4, s5⟩ := hSw
    go_simp
    first | done | with_reducible rfl
  try simp only [Act.put, List.setIfInBounds_toArray, List.set_cons_zero, List.set_cons_succ]
  refine wpAnyH_done (by kernel_rfl) ?_ _
  go_upto_region 5 with fail
  have e2 : (k == 2) = false := by rw [HKK.out]; rfl
  have e3 : (k == 3) = false := by rw [HKK.out]; rfl
  have e4 : (k == 4) = true := by rw [HKK.out]; rfl
  have e7 : (k == 7) = false := by rw [HKK.out]; rfl
  have e8 : (k == 8) = false := by rw [HKK.out]; rfl
  have HS5 : Hid (∀ W, Below W0.heap.size W0 W → (fun W : World => W.cell? ⟨S.c, 5, none⟩ = some (.map (some S.m)) ∧ W.cell? ⟨gl, 3, none⟩ = some (.int .i64 X) ∧ (Instr.lookup 61 (.map (some S.m)) (.int .i64 X) false).run Try.prog W = .ok (.agg #[.int .i64 2, .int .i64 (a : Int), .int .i64 (o : Int), .int .i64 y, .int .i64 s]) W) W) := Lib.hid fun W hb => by
    obtain ⟨_, _, _, _, _, d5, _⟩ := box7_ (HCW.out W hb).box
    obtain ⟨_, _, _, l3, _⟩ := box5 (HL5.out W hb)
    exact ⟨d5, l3, HLK.out W hb⟩
  have hS5 := HS5.out _ (HB1.out.trans ((drew_below w1).mono HB1.out.size))
  clear c5
  refine wp_region_held_drew (S := (fun W : World => W.cell? ⟨S.c, 5, none⟩ = some (.map (some S.m)) ∧ W.cell? ⟨gl, 3, none⟩ = some (.int .i64 X) ∧ (Instr.lookup 61 (.map (some S.m)) (.int .i64 X) false).run Try.prog W = .ok (.agg #[.int .i64 2, .int .i64 (a : Int), .int .i64 (o : Int), .int .i64 y, .int .i64 s]) W)) (by kernel_rfl) hS5 (fun _ => ?_)
  refine wpAnyH_take (i := 0) (oi := ({ dst := Option.some 32, op := Go.Op.move (Go.Operand.tmp 0), type := 28, pos := "coordinator.go:86", after := #[], guard := Option.none } : Oper)) (v := ?v0x30) rfl (by kernel_rfl) (by kernel_rfl) (by kernel_rfl) (fun _ _ _ h => h) (Or.inl ⟨by rfl, ?hy0x30⟩) hS5 ?rest0x30
  case hy0x30 =>
    intro W0 hSw
    obtain ⟨s0, s1, s2⟩ := hSw
    go_simp
    first | done | with_reducible rfl
  try simp only [Act.put, List.setIfInBounds_toArray, List.set_cons_zero, List.set_cons_succ]
  refine wpAnyH_take (i := 1) (oi := ({ dst := Option.some 33, op := Go.Op.nilCheck (Go.Operand.tmp 32), type := 0, pos := "coordinator.go:86", after := #[{ on := 0, ground := Go.Ground.data }], guard := Option.none } : Oper)) (v := ?v1x31) rfl (by kernel_rfl) (by kernel_rfl) (by kernel_rfl) (fun _ _ _ h => h) (Or.inl ⟨by rfl, ?hy1x31⟩) hS5 ?rest1x31
  case hy1x31 =>
    intro W0 hSw
    obtain ⟨s0, s1, s2⟩ := hSw
    go_simp
    first | done | with_reducible rfl
  try simp only [Act.put, List.setIfInBounds_toArray, List.set_cons_zero, List.set_cons_succ]
  refine wpAnyH_take (i := 2) (oi := ({ dst := Option.some 34, op := Go.Op.fieldAddr 63 (Go.Operand.tmp 33) 5, type := 0, pos := "coordinator.go:86", after := #[{ on := 1, ground := Go.Ground.data }], guard := Option.none } : Oper)) (v := ?v2x32) rfl (by kernel_rfl) (by kernel_rfl) (by kernel_rfl) (fun _ _ _ h => h) (Or.inl ⟨by rfl, ?hy2x32⟩) hS5 ?rest2x32
  case hy2x32 =>
    intro W0 hSw
    obtain ⟨s0, s1, s2⟩ := hSw
    go_simp
    first | done | with_reducible rfl
  try simp only [Act.put, List.setIfInBounds_toArray, List.set_cons_zero, List.set_cons_succ]
  refine wpAnyH_take (i := 3) (oi := ({ dst := Option.some 35, op := Go.Op.load 61 (Go.Operand.tmp 34), type := 61, pos := "coordinator.go:86", after := #[{ on := 2, ground := Go.Ground.data }], guard := Option.none } : Oper)) (v := ?v3x33) rfl (by kernel_rfl) (by kernel_rfl) (by kernel_rfl) (fun _ _ _ h => h) (Or.inl ⟨by rfl, ?hy3x33⟩) hS5 ?rest3x33
  case hy3x33 =>
    intro W0 hSw
    obtain ⟨s0, s1, s2⟩ := hSw
    go_simp
    first | done | with_reducible rfl
  try simp only [Act.put, List.setIfInBounds_toArray, List.set_cons_zero, List.set_cons_succ]
  refine wpAnyH_take (i := 4) (oi := ({ dst := Option.some 36, op := Go.Op.fieldAddr 46 (Go.Operand.tmp 3) 3, type := 0, pos := "coordinator.go:86", after := #[], guard := Option.none } : Oper)) (v := ?v4x34) rfl (by kernel_rfl) (by kernel_rfl) (by kernel_rfl) (fun _ _ _ h => h) (Or.inl ⟨by rfl, ?hy4x34⟩) hS5 ?rest4x34
  case hy4x34 =>
    intro W0 hSw
    obtain ⟨s0, s1, s2⟩ := hSw
    go_simp
    first | done | with_reducible rfl
  try simp only [Act.put, List.setIfInBounds_toArray, List.set_cons_zero, List.set_cons_succ]
  refine wpAnyH_take (i := 5) (oi := ({ dst := Option.some 37, op := Go.Op.load 3 (Go.Operand.tmp 36), type := 3, pos := "coordinator.go:86", after := #[{ on := 4, ground := Go.Ground.data }], guard := Option.none } : Oper)) (v := ?v5x35) rfl (by kernel_rfl) (by kernel_rfl) (by kernel_rfl) (fun _ _ _ h => h) (Or.inl ⟨by rfl, ?hy5x35⟩) hS5 ?rest5x35
  case hy5x35 =>
    intro W0 hSw
    obtain ⟨s0, s1, s2⟩ := hSw
    go_simp
    first | done | with_reducible rfl
  try simp only [Act.put, List.setIfInBounds_toArray, List.set_cons_zero, List.set_cons_succ]
  refine wpAnyH_take (i := 6) (oi := ({ dst := Option.some 38, op := Go.Op.lookup 61 (Go.Operand.tmp 35) (Go.Operand.tmp 37) Bool.false, type := 67, pos := "coordinator.go:86", after := #[{ on := 3, ground := Go.Ground.data }, { on := 5, ground := Go.Ground.data }], guard := Option.none } : Oper)) (v := ?v6x36) rfl (by kernel_rfl) (by kernel_rfl) (by kernel_rfl) (fun _ _ _ h => h) (Or.inl ⟨by rfl, ?hy6x36⟩) hS5 ?rest6x36
  case hy6x36 =>
    intro W0 hSw
    obtain ⟨s0, s1, s2⟩ := hSw
    go_simp
    first | done | with_reducible rfl
  try simp only [Act.put, List.setIfInBounds_toArray, List.set_cons_zero, List.set_cons_succ]
  refine wpAnyH_ready (rs := [7]) (by kernel_rfl) (by simp) ?_
  refine AllReadyH.cons (o := ({ dst := Option.some 5, op := Go.Op.alloc 67, type := 0, pos := "coordinator.go:86", after := #[], guard := Option.none } : Oper)) rfl (fun K0 hK0 => ?_) AllReadyH.nil
  go_simp
  refine hK0.out _ _ (HS5.out _ ?hb7) (fun _ => ?_)
  case hb7 => first | exact HB1.out.trans (((alloc_below w1 _).trans ((drew_below _).mono (by simp))).mono HB1.out.size) | exact HB1.out.trans (((drew_below w1).trans (alloc_below w1.drew _)).mono HB1.out.size)
  clear hK0 K0
  try simp only [Act.put, List.setIfInBounds_toArray, List.set_cons_zero, List.set_cons_succ]
  refine wpAnyH_ready (rs := [8]) (by kernel_rfl) (by simp) ?_
  refine AllReadyH.cons (o := ({ dst := Option.none, op := Go.Op.store 67 (Go.Operand.tmp 5) (Go.Operand.tmp 38), type := 0, pos := "coordinator.go:86", after := #[{ on := 7, ground := Go.Ground.data }, { on := 6, ground := Go.Ground.data }, { on := 0, ground := Go.Ground.phase }, { on := 1, ground := Go.Ground.phase }, { on := 2, ground := Go.Ground.phase }, { on := 3, ground := Go.Ground.phase }, { on := 4, ground := Go.Ground.phase }, { on := 5, ground := Go.Ground.phase }, { on := 6, ground := Go.Ground.phase }, { on := 7, ground := Go.Ground.phase }], guard := Option.none } : Oper)) rfl (fun K0 hK0 => ?_) AllReadyH.nil
  go_simp
  refine hK0.out _ _ (HS5.out _ ?hb8) (fun _ => ?_)
  case hb8 => first | exact HB1.out.trans (((alloc_below w1 _).trans ((drew_below _).mono (by simp))).mono HB1.out.size) | exact HB1.out.trans (((drew_below w1).trans (alloc_below w1.drew _)).mono HB1.out.size)
  clear hK0 K0
  try simp only [Act.put, List.setIfInBounds_toArray, List.set_cons_zero, List.set_cons_succ]
  refine wpAnyH_done (by kernel_rfl) ?_ _
  obtain ⟨W5, hW5⟩ : ∃ W5, Hid (W5 = (w1.alloc (.cells #[.int .i64 2, .int .i64 (a : Int), .int .i64 (o : Int), .int .i64 y, .int .i64 s] 67)).drew) := ⟨_, Lib.hid rfl⟩
  rw [← hW5.out]
  have hb5 : Below W0.heap.size W0 W5 := by rw [hW5.out]; exact HB1.out.trans (((alloc_below w1 _).trans ((drew_below _).mono (by simp))).mono HB1.out.size)
  have ht5 : W5.heap[w1.heap.size]? = some (.cells #[.int .i64 2, .int .i64 (a : Int), .int .i64 (o : Int), .int .i64 y, .int .i64 s] 67 (0, 0)) := by rw [hW5.out]; exact heap_alloc_new w1 _
  obtain ⟨l0, l1, l2, l3, l4⟩ := box5 (HL5.out _ hb5)
  obtain ⟨z0, z1, z2, z3, z4⟩ := box5 ht5
  have hcw := HCW.out _ hb5
  have HV := Lib.hid (HVN.out k W5)
  have HB5 := Lib.hid hb5
  clear hb5 ht5 hcw
  go_wp2_with (go_at_call 29; refine HV.out.mono ?_; rintro e1 w6 ⟨rfl, hl⟩
               have HE := Lib.hid (LtT.none HH0.out (HB0.out.trans ((HB5.out.trans (hl.mono HB5.out.size)).mono HB0.out.size)))
               clear hl)
  go_ret
  exact ⟨rfl, HE.out⟩
set_option maxRecDepth 100000 in
set_option maxHeartbeats 16000000 in
theorem hear_vc3 {w : World} {B : Nat} {S : CoS} (h : Co w B S) {f x : Nat} (hf16 : f < 16) (hx : x < 1099511627776) (hxn : x % 16 = S.node) {e : Te} (he : findT S.T x = some e) (hes : e.s = 3) :
    Calls Try.prog 14 #[.pointer (some ⟨S.c, 0, none⟩), .agg #[.int .i64 3, .int .i64 (f : Int), .int .i64 (S.node : Int), .int .i64 (x : Int), .slice none 0 0]] w (fun e1 w' => e1 = .returned (.int .i64 0) ∧ LtT w B S S.T [] w') := by
  have hxi : i64ok (x : Int) := by unfold i64ok; omega
  obtain ⟨k, hk⟩ : ∃ k : Int, k = 3 := ⟨_, rfl⟩
  have HRT := Lib.hid (fun W => rightL_any k (f : Int) (S.node : Int) (x : Int) [] none 0 0 rfl (by omega) W (RdI.nil _ _ _))
  rw [right_of (by omega) hf16 h.nod (by omega)] at HRT
  obtain ⟨X, hX⟩ : ∃ X : Int, X = (x : Int) := ⟨_, rfl⟩
  have hX16 : X % 16 = (S.node : Int) := by omega
  have hX17 : X.tmod 16 = (S.node : Int) := by rw [Int.tmod_eq_emod_of_nonneg (by omega)]; exact hX16
  have hX0 : 0 ≤ X := by omega
  have hnn : ((S.node : Int) != (S.node : Int)) = false := by simp
  obtain ⟨gl, hgl⟩ : ∃ gl, gl = w.heap.size := ⟨_, rfl⟩
  obtain ⟨L5, hL5⟩ : ∃ L5, L5 = Obj.cells #[.int .i64 k, .int .i64 (f : Int), .int .i64 (S.node : Int), .int .i64 X, .slice none 0 0] 46 := ⟨_, rfl⟩
  have hb0 := alloc_below w L5
  have hl5 := heap_alloc_new w L5
  obtain ⟨W0, hW0⟩ : ∃ W0, W0 = w.alloc L5 := ⟨_, rfl⟩
  rw [← hW0] at hb0 hl5
  rw [← hgl, hL5] at hl5
  have hc0 := h.below hb0
  have HB0 := Lib.hid hb0
  have HS3 : Hid (∀ W, Below W0.heap.size W0 W → (fun W : World => W.cell? ⟨gl, 0, none⟩ = some (.int .i64 k) ∧ W.cell? ⟨gl, 1, none⟩ = some (.int .i64 (f : Int)) ∧ W.cell? ⟨gl, 2, none⟩ = some (.int .i64 (S.node : Int)) ∧ W.cell? ⟨gl, 3, none⟩ = some (.int .i64 X) ∧ W.cell? ⟨gl, 4, none⟩ = some (.slice none 0 0) ∧ W.cell? ⟨S.c, 0, none⟩ = some (.int .i64 (S.node : Int))) W) := Lib.hid fun W hb => by
    obtain ⟨l0, l1, l2, l3, l4⟩ := box5 ((hb.block gl (lt_of_heap hl5)).trans hl5)
    obtain ⟨d0, _⟩ := box7_ (hc0.below hb).box
    exact ⟨l0, l1, l2, l3, l4, d0⟩
  obtain ⟨n, s0, a, o, y0, t0⟩ := e
  simp only at hes ⊢
  subst hes
  obtain ⟨y, hy⟩ : ∃ y : Int, y = (y0 : Int) := ⟨_, rfl⟩
  obtain ⟨s, hs⟩ : ∃ s : Int, s = (t0 : Int) := ⟨_, rfl⟩
  have HLK : Hid (∀ W, Below W0.heap.size W0 W → (Instr.lookup 61 (.map (some S.m)) (.int .i64 X) false).run Try.prog W = .ok (.agg #[.int .i64 3, .int .i64 (a : Int), .int .i64 (o : Int), .int .i64 y, .int .i64 s]) W) := Lib.hid fun W hb => by
    have h1 := (hc0.below hb).map.look hxi
    unfold stT at h1
    rw [hX]
    simp only [he, Te.v, teV] at h1
    rw [hy, hs]
    exact h1
  have HH0 := Lib.hid h
  have HVN : Hid (∀ (kk : Int) W, Calls Try.prog 29 #[.pointer (some ⟨S.c, 0, none⟩), .agg #[.int .i64 kk, .int .i64 (f : Int), .int .i64 (S.node : Int), .int .i64 X, .slice none 0 0], .agg #[.int .i64 3, .int .i64 (a : Int), .int .i64 (o : Int), .int .i64 y, .int .i64 s]] W (Ans (.int .i64 0) W)) := Lib.hid fun kk W => vote_cm S.c kk (f : Int) (S.node : Int) X (a : Int) (o : Int) y s W
  clear he hy hs
  rw [← hX] at HRT
  rw [← hX, ← hk]
  have HC := Lib.hid (closed_any hc0)
  rw [hW0, hL5] at HC
  have HW0 := Lib.hid hW0
  rw [hL5] at HW0
  have HGL := Lib.hid hgl
  have HXX := Lib.hid hX
  have HCW : Hid (∀ W, Below W0.heap.size W0 W → Co W B S) := Lib.hid fun W hb => hc0.below hb
  have HL5 : Hid (∀ W, Below W0.heap.size W0 W → W.heap[gl]? = some (.cells #[.int .i64 k, .int .i64 (f : Int), .int .i64 (S.node : Int), .int .i64 X, .slice none 0 0] 46 (0, 0))) := Lib.hid fun W hb => (hb.block gl (lt_of_heap hl5)).trans hl5
  obtain ⟨_, _, _, _, _, c5, _⟩ := box7_ hc0.box
  have HKK := Lib.hid hk
  clear h hk hf16 hx hxn hxi hX hb0 hl5 hc0 hW0 hL5 hgl hX16
  go_enter Try.func14, Try.ntmps14
  go_upto_region 3 with (go_at_call 24; refine HC.out.mono ?_; rintro e1 w1 ⟨rfl, rfl⟩)
  rw [← HW0.out]
  have hSS := HS3.out _ (drew_below W0)
  rw [← HGL.out]
  refine wp_region_held_drew (S := (fun W : World => W.cell? ⟨gl, 0, none⟩ = some (.int .i64 k) ∧ W.cell? ⟨gl, 1, none⟩ = some (.int .i64 (f : Int)) ∧ W.cell? ⟨gl, 2, none⟩ = some (.int .i64 (S.node : Int)) ∧ W.cell? ⟨gl, 3, none⟩ = some (.int .i64 X) ∧ W.cell? ⟨gl, 4, none⟩ = some (.slice none 0 0) ∧ W.cell? ⟨S.c, 0, none⟩ = some (.int .i64 (S.node : Int)))) (by kernel_rfl) hSS (fun _ => ?_)
  refine wpAnyH_take (i := 0) (oi := ({ dst := Option.some 10, op := Go.Op.load 46 (Go.Operand.tmp 3), type := 46, pos := "coordinator.go:83", after := #[], guard := Option.none } : Oper)) (v := ?v0x8) rfl (by kernel_rfl) (by kernel_rfl) (by kernel_rfl) (fun _ _ _ h => h) (Or.inl ⟨by rfl, ?hy0x8⟩) hSS ?rest0x8
  case hy0x8 =>
    intro W0 hSw
    obtain ⟨s0, s1, s2, s3, s4, s5⟩ := hSw
    go_simp
    first | done | with_reducible rfl
  try simp only [Act.put, List.setIfInBounds_toArray, List.set_cons_zero, List.set_cons_succ]
  refine wpAnyH_ready (rs := [1]) (by kernel_rfl) (by simp) ?_
  refine AllReadyH.cons (o := ({ dst := Option.some 11, op := Go.Op.call { callee := Go.Callee.value (Go.Operand.func 25), args := #[Go.Operand.tmp 10], argTypes := #[46] }, type := 4, pos := "coordinator.go:83", after := #[{ on := 0, ground := Go.Ground.data }], guard := Option.none } : Oper)) rfl (fun K0 hK0 => ?_) AllReadyH.nil
  go_simp
  go_at_call 25
  refine (HRT.out _).mono ?_
  rintro e1 w1 ⟨rfl, hb1⟩
  have HB1 := Lib.hid ((drew_below W0).trans (Below.mono hb1 (Nat.le_refl _)))
  have hSS := HS3.out _ HB1.out
  clear hb1
  try go_wp2_with fail
  refine hK0.out _ _ hSS (fun _ => ?_)
  clear hK0 K0
  try simp only [Act.put, List.setIfInBounds_toArray, List.set_cons_zero, List.set_cons_succ]
  refine wpAnyH_take (i := 2) (oi := ({ dst := Option.some 12, op := Go.Op.unOp Go.UnOp.not 4 (Go.Operand.tmp 11), type := 4, pos := "coordinator.go:83", after := #[{ on := 1, ground := Go.Ground.data }], guard := Option.none } : Oper)) (v := ?v2x9) rfl (by kernel_rfl) (by kernel_rfl) (by kernel_rfl) (fun _ _ _ h => h) (Or.inl ⟨by rfl, ?hy2x9⟩) hSS ?rest2x9
  case hy2x9 =>
    intro W0 hSw
    obtain ⟨s0, s1, s2, s3, s4, s5⟩ := hSw
    go_simp
    first | done | with_reducible rfl
  try simp only [Act.put, List.setIfInBounds_toArray, List.set_cons_zero, List.set_cons_succ]
  refine wpAnyH_take (i := 3) (oi := ({ dst := Option.some 13, op := Go.Op.move (Go.Operand.tmp 12), type := 4, pos := "coordinator.go:83", after := #[{ on := 2, ground := Go.Ground.data }, { on := 1, ground := Go.Ground.chain }], guard := Option.none } : Oper)) (v := ?v3x10) rfl (by kernel_rfl) (by kernel_rfl) (by kernel_rfl) (fun _ _ _ h => h) (Or.inl ⟨by rfl, ?hy3x10⟩) hSS ?rest3x10
  case hy3x10 =>
    intro W0 hSw
    obtain ⟨s0, s1, s2, s3, s4, s5⟩ := hSw
    go_simp
    first | done | with_reducible rfl
  try simp only [Act.put, List.setIfInBounds_toArray, List.set_cons_zero, List.set_cons_succ]
  refine wpAnyH_take (i := 4) (oi := ({ dst := Option.some 14, op := Go.Op.fieldAddr 46 (Go.Operand.tmp 3) 2, type := 0, pos := "coordinator.go:83", after := #[{ on := 3, ground := Go.Ground.guard }], guard := Option.some (3, Bool.false) } : Oper)) (v := ?v4x11) rfl (by kernel_rfl) (by kernel_rfl) (by kernel_rfl) (fun _ _ _ h => h) (Or.inl ⟨by rfl, ?hy4x11⟩) hSS ?rest4x11
  case hy4x11 =>
    intro W0 hSw
    obtain ⟨s0, s1, s2, s3, s4, s5⟩ := hSw
    go_simp
    first | done | with_reducible rfl
  try simp only [Act.put, List.setIfInBounds_toArray, List.set_cons_zero, List.set_cons_succ]
  refine wpAnyH_take (i := 5) (oi := ({ dst := Option.some 15, op := Go.Op.load 3 (Go.Operand.tmp 14), type := 3, pos := "coordinator.go:83", after := #[{ on := 4, ground := Go.Ground.data }, { on := 3, ground := Go.Ground.guard }], guard := Option.some (3, Bool.false) } : Oper)) (v := ?v5x12) rfl (by kernel_rfl) (by kernel_rfl) (by kernel_rfl) (fun _ _ _ h => h) (Or.inl ⟨by rfl, ?hy5x12⟩) hSS ?rest5x12
  case hy5x12 =>
    intro W0 hSw
    obtain ⟨s0, s1, s2, s3, s4, s5⟩ := hSw
    go_simp
    first | done | with_reducible rfl
  try simp only [Act.put, List.setIfInBounds_toArray, List.set_cons_zero, List.set_cons_succ]
  refine wpAnyH_take (i := 6) (oi := ({ dst := Option.some 16, op := Go.Op.move (Go.Operand.tmp 0), type := 28, pos := "coordinator.go:83", after := #[{ on := 3, ground := Go.Ground.guard }], guard := Option.some (3, Bool.false) } : Oper)) (v := ?v6x13) rfl (by kernel_rfl) (by kernel_rfl) (by kernel_rfl) (fun _ _ _ h => h) (Or.inl ⟨by rfl, ?hy6x13⟩) hSS ?rest6x13
  case hy6x13 =>
    intro W0 hSw
    obtain ⟨s0, s1, s2, s3, s4, s5⟩ := hSw
    go_simp
    first | done | with_reducible rfl
  try simp only [Act.put, List.setIfInBounds_toArray, List.set_cons_zero, List.set_cons_succ]
  refine wpAnyH_take (i := 7) (oi := ({ dst := Option.some 17, op := Go.Op.nilCheck (Go.Operand.tmp 16), type := 0, pos := "coordinator.go:83", after := #[{ on := 6, ground := Go.Ground.data }, { on := 3, ground := Go.Ground.guard }], guard := Option.some (3, Bool.false) } : Oper)) (v := ?v7x14) rfl (by kernel_rfl) (by kernel_rfl) (by kernel_rfl) (fun _ _ _ h => h) (Or.inl ⟨by rfl, ?hy7x14⟩) hSS ?rest7x14
  case hy7x14 =>
    intro W0 hSw
    obtain ⟨s0, s1, s2, s3, s4, s5⟩ := hSw
    go_simp
    first | done | with_reducible rfl
  try simp only [Act.put, List.setIfInBounds_toArray, List.set_cons_zero, List.set_cons_succ]
  refine wpAnyH_take (i := 8) (oi := ({ dst := Option.some 18, op := Go.Op.fieldAddr 63 (Go.Operand.tmp 17) 0, type := 0, pos := "coordinator.go:83", after := #[{ on := 7, ground := Go.Ground.data }, { on := 3, ground := Go.Ground.guard }], guard := Option.some (3, Bool.false) } : Oper)) (v := ?v8x15) rfl (by kernel_rfl) (by kernel_rfl) (by kernel_rfl) (fun _ _ _ h => h) (Or.inl ⟨by rfl, ?hy8x15⟩) hSS ?rest8x15
  case hy8x15 =>
    intro W0 hSw
    obtain ⟨s0, s1, s2, s3, s4, s5⟩ := hSw
    go_simp
    first | done | with_reducible rfl
  try simp only [Act.put, List.setIfInBounds_toArray, List.set_cons_zero, List.set_cons_succ]
  refine wpAnyH_take (i := 9) (oi := ({ dst := Option.some 19, op := Go.Op.load 3 (Go.Operand.tmp 18), type := 3, pos := "coordinator.go:83", after := #[{ on := 8, ground := Go.Ground.data }, { on := 3, ground := Go.Ground.guard }], guard := Option.some (3, Bool.false) } : Oper)) (v := ?v9x16) rfl (by kernel_rfl) (by kernel_rfl) (by kernel_rfl) (fun _ _ _ h => h) (Or.inl ⟨by rfl, ?hy9x16⟩) hSS ?rest9x16
  case hy9x16 =>
    intro W0 hSw
    obtain ⟨s0, s1, s2, s3, s4, s5⟩ := hSw
    go_simp
    first | done | with_reducible rfl
  try simp only [Act.put, List.setIfInBounds_toArray, List.set_cons_zero, List.set_cons_succ]
  refine wpAnyH_take (i := 10) (oi := ({ dst := Option.some 20, op := Go.Op.binOp Go.BinOp.neq 3 (Go.Operand.tmp 15) (Go.Operand.tmp 19) 3, type := 4, pos := "coordinator.go:83", after := #[{ on := 5, ground := Go.Ground.data }, { on := 9, ground := Go.Ground.data }, { on := 3, ground := Go.Ground.guard }], guard := Option.some (3, Bool.false) } : Oper)) (v := ?v10x17) rfl (by kernel_rfl) (by kernel_rfl) (by kernel_rfl) (fun _ _ _ h => h) (Or.inl ⟨by rfl, ?hy10x17⟩) hSS ?rest10x17
  case hy10x17 =>
    intro W0 hSw
    obtain ⟨s0, s1, s2, s3, s4, s5⟩ := hSw
    go_simp
    first | done | with_reducible rfl
  try simp only [Act.put, List.setIfInBounds_toArray, List.set_cons_zero, List.set_cons_succ]
  refine wpAnyH_take (i := 11) (oi := ({ dst := Option.some 21, op := Go.Op.pick (Go.Operand.tmp 13) (Go.Operand.const (Go.Value.bool Bool.true)) (Go.Operand.tmp 20), type := 4, pos := "coordinator.go:83", after := #[{ on := 3, ground := Go.Ground.data }, { on := 10, ground := Go.Ground.data }], guard := Option.none } : Oper)) (v := ?v11x18) rfl (by kernel_rfl) (by kernel_rfl) (by kernel_rfl) (fun _ _ _ h => h) (Or.inl ⟨by rfl, ?hy11x18⟩) hSS ?rest11x18
  case hy11x18 =>
    intro W0 hSw
    obtain ⟨s0, s1, s2, s3, s4, s5⟩ := hSw
    go_simp
    first | done | with_reducible rfl
  try simp only [Act.put, List.setIfInBounds_toArray, List.set_cons_zero, List.set_cons_succ]
  refine wpAnyH_take (i := 12) (oi := ({ dst := Option.some 22, op := Go.Op.move (Go.Operand.tmp 21), type := 4, pos := "coordinator.go:83", after := #[{ on := 11, ground := Go.Ground.data }, { on := 3, ground := Go.Ground.chain }], guard := Option.none } : Oper)) (v := ?v12x19) rfl (by kernel_rfl) (by kernel_rfl) (by kernel_rfl) (fun _ _ _ h => h) (Or.inl ⟨by rfl, ?hy12x19⟩) hSS ?rest12x19
  case hy12x19 =>
    intro W0 hSw
    obtain ⟨s0, s1, s2, s3, s4, s5⟩ := hSw
    go_simp
    first | done | with_reducible rfl
  try simp only [Act.put, List.setIfInBounds_toArray, List.set_cons_zero, List.set_cons_succ]
  refine wpAnyH_take (i := 13) (oi := ({ dst := Option.some 23, op := Go.Op.fieldAddr 46 (Go.Operand.tmp 3) 3, type := 0, pos := "coordinator.go:83", after := #[{ on := 12, ground := Go.Ground.guard }], guard := Option.some (12, Bool.false) } : Oper)) (v := ?v13x20) rfl (by kernel_rfl) (by kernel_rfl) (by kernel_rfl) (fun _ _ _ h => h) (Or.inl ⟨by rfl, ?hy13x20⟩) hSS ?rest13x20
  case hy13x20 =>
    intro W0 hSw
    obtain ⟨s0, s1, s2, s3, s4, s5⟩ := hSw
    go_simp
    first | done | with_reducible rfl
  try simp only [Act.put, List.setIfInBounds_toArray, List.set_cons_zero, List.set_cons_succ]
  refine wpAnyH_take (i := 14) (oi := ({ dst := Option.some 24, op := Go.Op.load 3 (Go.Operand.tmp 23), type := 3, pos := "coordinator.go:83", after := #[{ on := 13, ground := Go.Ground.data }, { on := 12, ground := Go.Ground.guard }], guard := Option.some (12, Bool.false) } : Oper)) (v := ?v14x21) rfl (by kernel_rfl) (by kernel_rfl) (by kernel_rfl) (fun _ _ _ h => h) (Or.inl ⟨by rfl, ?hy14x21⟩) hSS ?rest14x21
  case hy14x21 =>
    intro W0 hSw
    obtain ⟨s0, s1, s2, s3, s4, s5⟩ := hSw
    go_simp
    first | done | with_reducible rfl
  try simp only [Act.put, List.setIfInBounds_toArray, List.set_cons_zero, List.set_cons_succ]
  refine wpAnyH_take (i := 15) (oi := ({ dst := Option.some 25, op := Go.Op.binOp Go.BinOp.rem 3 (Go.Operand.tmp 24) (Go.Operand.const (Go.Value.int Go.IntKind.i64 16)) 3, type := 3, pos := "coordinator.go:83", after := #[{ on := 14, ground := Go.Ground.data }, { on := 12, ground := Go.Ground.guard }], guard := Option.some (12, Bool.false) } : Oper)) (v := ?v15x22) rfl (by kernel_rfl) (by kernel_rfl) (by kernel_rfl) (fun _ _ _ h => h) (Or.inl ⟨by rfl, ?hy15x22⟩) hSS ?rest15x22
  case hy15x22 =>
    intro W0 hSw
    obtain ⟨s0, s1, s2, s3, s4, s5⟩ := hSw
    go_simp
    first | done | with_reducible rfl
  try simp only [Act.put, List.setIfInBounds_toArray, List.set_cons_zero, List.set_cons_succ]
  refine wpAnyH_take (i := 16) (oi := ({ dst := Option.some 26, op := Go.Op.move (Go.Operand.tmp 0), type := 28, pos := "coordinator.go:83", after := #[{ on := 12, ground := Go.Ground.guard }], guard := Option.some (12, Bool.false) } : Oper)) (v := ?v16x23) rfl (by kernel_rfl) (by kernel_rfl) (by kernel_rfl) (fun _ _ _ h => h) (Or.inl ⟨by rfl, ?hy16x23⟩) hSS ?rest16x23
  case hy16x23 =>
    intro W0 hSw
    obtain ⟨s0, s1, s2, s3, s4, s5⟩ := hSw
    go_simp
    first | done | with_reducible rfl
  try simp only [Act.put, List.setIfInBounds_toArray, List.set_cons_zero, List.set_cons_succ]
  refine wpAnyH_take (i := 17) (oi := ({ dst := Option.some 27, op := Go.Op.nilCheck (Go.Operand.tmp 26), type := 0, pos := "coordinator.go:83", after := #[{ on := 16, ground := Go.Ground.data }, { on := 12, ground := Go.Ground.guard }], guard := Option.some (12, Bool.false) } : Oper)) (v := ?v17x24) rfl (by kernel_rfl) (by kernel_rfl) (by kernel_rfl) (fun _ _ _ h => h) (Or.inl ⟨by rfl, ?hy17x24⟩) hSS ?rest17x24
  case hy17x24 =>
    intro W0 hSw
    obtain ⟨s0, s1, s2, s3, s4, s5⟩ := hSw
    go_simp
    first | done | with_reducible rfl
  try simp only [Act.put, List.setIfInBounds_toArray, List.set_cons_zero, List.set_cons_succ]
  refine wpAnyH_take (i := 18) (oi := ({ dst := Option.some 28, op := Go.Op.fieldAddr 63 (Go.Operand.tmp 27) 0, type := 0, pos := "coordinator.go:83", after := #[{ on := 17, ground := Go.Ground.data }, { on := 12, ground := Go.Ground.guard }], guard := Option.some (12, Bool.false) } : Oper)) (v := ?v18x25) rfl (by kernel_rfl) (by kernel_rfl) (by kernel_rfl) (fun _ _ _ h => h) (Or.inl ⟨by rfl, ?hy18x25⟩) hSS ?rest18x25
  case hy18x25 =>
    intro W0 hSw
    obtain ⟨s0, s1, s2, s3, s4, s5⟩ := hSw
    go_simp
    first | done | with_reducible rfl
  try simp only [Act.put, List.setIfInBounds_toArray, List.set_cons_zero, List.set_cons_succ]
  refine wpAnyH_take (i := 19) (oi := ({ dst := Option.some 29, op := Go.Op.load 3 (Go.Operand.tmp 28), type := 3, pos := "coordinator.go:83", after := #[{ on := 18, ground := Go.Ground.data }, { on := 12, ground := Go.Ground.guard }], guard := Option.some (12, Bool.false) } : Oper)) (v := ?v19x26) rfl (by kernel_rfl) (by kernel_rfl) (by kernel_rfl) (fun _ _ _ h => h) (Or.inl ⟨by rfl, ?hy19x26⟩) hSS ?rest19x26
  case hy19x26 =>
    intro W0 hSw
    obtain ⟨s0, s1, s2, s3, s4, s5⟩ := hSw
    go_simp
    first | done | with_reducible rfl
  try simp only [Act.put, List.setIfInBounds_toArray, List.set_cons_zero, List.set_cons_succ]
  refine wpAnyH_take (i := 20) (oi := ({ dst := Option.some 30, op := Go.Op.binOp Go.BinOp.neq 3 (Go.Operand.tmp 25) (Go.Operand.tmp 29) 3, type := 4, pos := "coordinator.go:83", after := #[{ on := 15, ground := Go.Ground.data }, { on := 19, ground := Go.Ground.data }, { on := 12, ground := Go.Ground.guard }], guard := Option.some (12, Bool.false) } : Oper)) (v := ?v20x27) rfl (by kernel_rfl) (by kernel_rfl) (by kernel_rfl) (fun _ _ _ h => h) (Or.inl ⟨by rfl, ?hy20x27⟩) hSS ?rest20x27
  case hy20x27 =>
    intro W0 hSw
    obtain ⟨s0, s1, s2, s3, s4, s5⟩ := hSw
    go_simp
    first | done | with_reducible rfl
  try simp only [Act.put, List.setIfInBounds_toArray, List.set_cons_zero, List.set_cons_succ]
  refine wpAnyH_take (i := 21) (oi := ({ dst := Option.some 31, op := Go.Op.pick (Go.Operand.tmp 22) (Go.Operand.const (Go.Value.bool Bool.true)) (Go.Operand.tmp 30), type := 4, pos := "coordinator.go:83", after := #[{ on := 12, ground := Go.Ground.data }, { on := 20, ground := Go.Ground.data }], guard := Option.none } : Oper)) (v := ?v21x28) rfl (by kernel_rfl) (by kernel_rfl) (by kernel_rfl) (fun _ _ _ h => h) (Or.inl ⟨by rfl, ?hy21x28⟩) hSS ?rest21x28
  case hy21x28 =>
    intro W0 hSw
    obtain ⟨s0, s1, s2, s3, s4, s5⟩ := hSw
    go_simp
    first | done | with_reducible rfl
  try simp only [Act.put, List.setIfInBounds_toArray, List.set_cons_zero, List.set_cons_succ]
  refine wpAnyH_take (i := 22) (oi := ({ dst := Option.some 9, op := Go.Op.assign (Go.Operand.tmp 31), type := 4, pos := "coordinator.go:83", after := #[{ on := 21, ground := Go.Ground.data }, { on := 12, ground := Go.Ground.chain }], guard := Option.none } : Oper)) (v := ?v22x29) rfl (by kernel_rfl) (by kernel_rfl) (by kernel_rfl) (fun _ _ _ h => h) (Or.inl ⟨by rfl, ?hy22x29⟩) hSS ?rest22x29
  case hy22x29 =>
    intro W0 hSw
    obtain ⟨s0, s1, s2, s3, s4, s5⟩ := hSw
    go_simp
    first | done | with_reducible rfl
  try simp only [Act.put, List.setIfInBounds_toArray, List.set_cons_zero, List.set_cons_succ]
  refine wpAnyH_done (by kernel_rfl) ?_ _
  go_upto_region 5 with fail
  have e2 : (k == 2) = false := by rw [HKK.out]; rfl
  have e3 : (k == 3) = true := by rw [HKK.out]; rfl
  have e4 : (k == 4) = false := by rw [HKK.out]; rfl
  have e7 : (k == 7) = false := by rw [HKK.out]; rfl
  have e8 : (k == 8) = false := by rw [HKK.out]; rfl
  have HS5 : Hid (∀ W, Below W0.heap.size W0 W → (fun W : World => W.cell? ⟨S.c, 5, none⟩ = some (.map (some S.m)) ∧ W.cell? ⟨gl, 3, none⟩ = some (.int .i64 X) ∧ (Instr.lookup 61 (.map (some S.m)) (.int .i64 X) false).run Try.prog W = .ok (.agg #[.int .i64 3, .int .i64 (a : Int), .int .i64 (o : Int), .int .i64 y, .int .i64 s]) W) W) := Lib.hid fun W hb => by
    obtain ⟨_, _, _, _, _, d5, _⟩ := box7_ (HCW.out W hb).box
    obtain ⟨_, _, _, l3, _⟩ := box5 (HL5.out W hb)
    exact ⟨d5, l3, HLK.out W hb⟩
  have hS5 := HS5.out _ (HB1.out.trans ((drew_below w1).mono HB1.out.size))
  clear c5
  refine wp_region_held_drew (S := (fun W : World => W.cell? ⟨S.c, 5, none⟩ = some (.map (some S.m)) ∧ W.cell? ⟨gl, 3, none⟩ = some (.int .i64 X) ∧ (Instr.lookup 61 (.map (some S.m)) (.int .i64 X) false).run Try.prog W = .ok (.agg #[.int .i64 3, .int .i64 (a : Int), .int .i64 (o : Int), .int .i64 y, .int .i64 s]) W)) (by kernel_rfl) hS5 (fun _ => ?_)
  refine wpAnyH_take (i := 0) (oi := ({ dst := Option.some 32, op := Go.Op.move (Go.Operand.tmp 0), type := 28, pos := "coordinator.go:86", after := #[], guard := Option.none } : Oper)) (v := ?v0x30) rfl (by kernel_rfl) (by kernel_rfl) (by kernel_rfl) (fun _ _ _ h => h) (Or.inl ⟨by rfl, ?hy0x30⟩) hS5 ?rest0x30
  case hy0x30 =>
    intro W0 hSw
    obtain ⟨s0, s1, s2⟩ := hSw
    go_simp
    first | done | with_reducible rfl
  try simp only [Act.put, List.setIfInBounds_toArray, List.set_cons_zero, List.set_cons_succ]
  refine wpAnyH_take (i := 1) (oi := ({ dst := Option.some 33, op := Go.Op.nilCheck (Go.Operand.tmp 32), type := 0, pos := "coordinator.go:86", after := #[{ on := 0, ground := Go.Ground.data }], guard := Option.none } : Oper)) (v := ?v1x31) rfl (by kernel_rfl) (by kernel_rfl) (by kernel_rfl) (fun _ _ _ h => h) (Or.inl ⟨by rfl, ?hy1x31⟩) hS5 ?rest1x31
  case hy1x31 =>
    intro W0 hSw
    obtain ⟨s0, s1, s2⟩ := hSw
    go_simp
    first | done | with_reducible rfl
  try simp only [Act.put, List.setIfInBounds_toArray, List.set_cons_zero, List.set_cons_succ]
  refine wpAnyH_take (i := 2) (oi := ({ dst := Option.some 34, op := Go.Op.fieldAddr 63 (Go.Operand.tmp 33) 5, type := 0, pos := "coordinator.go:86", after := #[{ on := 1, ground := Go.Ground.data }], guard := Option.none } : Oper)) (v := ?v2x32) rfl (by kernel_rfl) (by kernel_rfl) (by kernel_rfl) (fun _ _ _ h => h) (Or.inl ⟨by rfl, ?hy2x32⟩) hS5 ?rest2x32
  case hy2x32 =>
    intro W0 hSw
    obtain ⟨s0, s1, s2⟩ := hSw
    go_simp
    first | done | with_reducible rfl
  try simp only [Act.put, List.setIfInBounds_toArray, List.set_cons_zero, List.set_cons_succ]
  refine wpAnyH_take (i := 3) (oi := ({ dst := Option.some 35, op := Go.Op.load 61 (Go.Operand.tmp 34), type := 61, pos := "coordinator.go:86", after := #[{ on := 2, ground := Go.Ground.data }], guard := Option.none } : Oper)) (v := ?v3x33) rfl (by kernel_rfl) (by kernel_rfl) (by kernel_rfl) (fun _ _ _ h => h) (Or.inl ⟨by rfl, ?hy3x33⟩) hS5 ?rest3x33
  case hy3x33 =>
    intro W0 hSw
    obtain ⟨s0, s1, s2⟩ := hSw
    go_simp
    first | done | with_reducible rfl
  try simp only [Act.put, List.setIfInBounds_toArray, List.set_cons_zero, List.set_cons_succ]
  refine wpAnyH_take (i := 4) (oi := ({ dst := Option.some 36, op := Go.Op.fieldAddr 46 (Go.Operand.tmp 3) 3, type := 0, pos := "coordinator.go:86", after := #[], guard := Option.none } : Oper)) (v := ?v4x34) rfl (by kernel_rfl) (by kernel_rfl) (by kernel_rfl) (fun _ _ _ h => h) (Or.inl ⟨by rfl, ?hy4x34⟩) hS5 ?rest4x34
  case hy4x34 =>
    intro W0 hSw
    obtain ⟨s0, s1, s2⟩ := hSw
    go_simp
    first | done | with_reducible rfl
  try simp only [Act.put, List.setIfInBounds_toArray, List.set_cons_zero, List.set_cons_succ]
  refine wpAnyH_take (i := 5) (oi := ({ dst := Option.some 37, op := Go.Op.load 3 (Go.Operand.tmp 36), type := 3, pos := "coordinator.go:86", after := #[{ on := 4, ground := Go.Ground.data }], guard := Option.none } : Oper)) (v := ?v5x35) rfl (by kernel_rfl) (by kernel_rfl) (by kernel_rfl) (fun _ _ _ h => h) (Or.inl ⟨by rfl, ?hy5x35⟩) hS5 ?rest5x35
  case hy5x35 =>
    intro W0 hSw
    obtain ⟨s0, s1, s2⟩ := hSw
    go_simp
    first | done | with_reducible rfl
  try simp only [Act.put, List.setIfInBounds_toArray, List.set_cons_zero, List.set_cons_succ]
  refine wpAnyH_take (i := 6) (oi := ({ dst := Option.some 38, op := Go.Op.lookup 61 (Go.Operand.tmp 35) (Go.Operand.tmp 37) Bool.false, type := 67, pos := "coordinator.go:86", after := #[{ on := 3, ground := Go.Ground.data }, { on := 5, ground := Go.Ground.data }], guard := Option.none } : Oper)) (v := ?v6x36) rfl (by kernel_rfl) (by kernel_rfl) (by kernel_rfl) (fun _ _ _ h => h) (Or.inl ⟨by rfl, ?hy6x36⟩) hS5 ?rest6x36
  case hy6x36 =>
    intro W0 hSw
    obtain ⟨s0, s1, s2⟩ := hSw
    go_simp
    first | done | with_reducible rfl
  try simp only [Act.put, List.setIfInBounds_toArray, List.set_cons_zero, List.set_cons_succ]
  refine wpAnyH_ready (rs := [7]) (by kernel_rfl) (by simp) ?_
  refine AllReadyH.cons (o := ({ dst := Option.some 5, op := Go.Op.alloc 67, type := 0, pos := "coordinator.go:86", after := #[], guard := Option.none } : Oper)) rfl (fun K0 hK0 => ?_) AllReadyH.nil
  go_simp
  refine hK0.out _ _ (HS5.out _ ?hb7) (fun _ => ?_)
  case hb7 => first | exact HB1.out.trans (((alloc_below w1 _).trans ((drew_below _).mono (by simp))).mono HB1.out.size) | exact HB1.out.trans (((drew_below w1).trans (alloc_below w1.drew _)).mono HB1.out.size)
  clear hK0 K0
  try simp only [Act.put, List.setIfInBounds_toArray, List.set_cons_zero, List.set_cons_succ]
  refine wpAnyH_ready (rs := [8]) (by kernel_rfl) (by simp) ?_
  refine AllReadyH.cons (o := ({ dst := Option.none, op := Go.Op.store 67 (Go.Operand.tmp 5) (Go.Operand.tmp 38), type := 0, pos := "coordinator.go:86", after := #[{ on := 7, ground := Go.Ground.data }, { on := 6, ground := Go.Ground.data }, { on := 0, ground := Go.Ground.phase }, { on := 1, ground := Go.Ground.phase }, { on := 2, ground := Go.Ground.phase }, { on := 3, ground := Go.Ground.phase }, { on := 4, ground := Go.Ground.phase }, { on := 5, ground := Go.Ground.phase }, { on := 6, ground := Go.Ground.phase }, { on := 7, ground := Go.Ground.phase }], guard := Option.none } : Oper)) rfl (fun K0 hK0 => ?_) AllReadyH.nil
  go_simp
  refine hK0.out _ _ (HS5.out _ ?hb8) (fun _ => ?_)
  case hb8 => first | exact HB1.out.trans (((alloc_below w1 _).trans ((drew_below _).mono (by simp))).mono HB1.out.size) | exact HB1.out.trans (((drew_below w1).trans (alloc_below w1.drew _)).mono HB1.out.size)
  clear hK0 K0
  try simp only [Act.put, List.setIfInBounds_toArray, List.set_cons_zero, List.set_cons_succ]
  refine wpAnyH_done (by kernel_rfl) ?_ _
  obtain ⟨W5, hW5⟩ : ∃ W5, Hid (W5 = (w1.alloc (.cells #[.int .i64 3, .int .i64 (a : Int), .int .i64 (o : Int), .int .i64 y, .int .i64 s] 67)).drew) := ⟨_, Lib.hid rfl⟩
  rw [← hW5.out]
  have hb5 : Below W0.heap.size W0 W5 := by rw [hW5.out]; exact HB1.out.trans (((alloc_below w1 _).trans ((drew_below _).mono (by simp))).mono HB1.out.size)
  have ht5 : W5.heap[w1.heap.size]? = some (.cells #[.int .i64 3, .int .i64 (a : Int), .int .i64 (o : Int), .int .i64 y, .int .i64 s] 67 (0, 0)) := by rw [hW5.out]; exact heap_alloc_new w1 _
  obtain ⟨l0, l1, l2, l3, l4⟩ := box5 (HL5.out _ hb5)
  obtain ⟨z0, z1, z2, z3, z4⟩ := box5 ht5
  have hcw := HCW.out _ hb5
  have HV := Lib.hid (HVN.out k W5)
  have HB5 := Lib.hid hb5
  clear hb5 ht5 hcw
  go_wp2_with (go_at_call 29; refine HV.out.mono ?_; rintro e1 w6 ⟨rfl, hl⟩
               have HE := Lib.hid (LtT.none HH0.out (HB0.out.trans ((HB5.out.trans (hl.mono HB5.out.size)).mono HB0.out.size)))
               clear hl)
  go_ret
  exact ⟨rfl, HE.out⟩
set_option maxRecDepth 100000 in
set_option maxHeartbeats 16000000 in
theorem hear_vc4 {w : World} {B : Nat} {S : CoS} (h : Co w B S) {f x : Nat} (hf16 : f < 16) (hx : x < 1099511627776) (hxn : x % 16 = S.node) {e : Te} (he : findT S.T x = some e) (hes : e.s = 3) :
    Calls Try.prog 14 #[.pointer (some ⟨S.c, 0, none⟩), .agg #[.int .i64 4, .int .i64 (f : Int), .int .i64 (S.node : Int), .int .i64 (x : Int), .slice none 0 0]] w (fun e1 w' => e1 = .returned (.int .i64 0) ∧ LtT w B S S.T [] w') := by
  have hxi : i64ok (x : Int) := by unfold i64ok; omega
  obtain ⟨k, hk⟩ : ∃ k : Int, k = 4 := ⟨_, rfl⟩
  have HRT := Lib.hid (fun W => rightL_any k (f : Int) (S.node : Int) (x : Int) [] none 0 0 rfl (by omega) W (RdI.nil _ _ _))
  rw [right_of (by omega) hf16 h.nod (by omega)] at HRT
  obtain ⟨X, hX⟩ : ∃ X : Int, X = (x : Int) := ⟨_, rfl⟩
  have hX16 : X % 16 = (S.node : Int) := by omega
  have hX17 : X.tmod 16 = (S.node : Int) := by rw [Int.tmod_eq_emod_of_nonneg (by omega)]; exact hX16
  have hX0 : 0 ≤ X := by omega
  have hnn : ((S.node : Int) != (S.node : Int)) = false := by simp
  obtain ⟨gl, hgl⟩ : ∃ gl, gl = w.heap.size := ⟨_, rfl⟩
  obtain ⟨L5, hL5⟩ : ∃ L5, L5 = Obj.cells #[.int .i64 k, .int .i64 (f : Int), .int .i64 (S.node : Int), .int .i64 X, .slice none 0 0] 46 := ⟨_, rfl⟩
  have hb0 := alloc_below w L5
  have hl5 := heap_alloc_new w L5
  obtain ⟨W0, hW0⟩ : ∃ W0, W0 = w.alloc L5 := ⟨_, rfl⟩
  rw [← hW0] at hb0 hl5
  rw [← hgl, hL5] at hl5
  have hc0 := h.below hb0
  have HB0 := Lib.hid hb0
  have HS3 : Hid (∀ W, Below W0.heap.size W0 W → (fun W : World => W.cell? ⟨gl, 0, none⟩ = some (.int .i64 k) ∧ W.cell? ⟨gl, 1, none⟩ = some (.int .i64 (f : Int)) ∧ W.cell? ⟨gl, 2, none⟩ = some (.int .i64 (S.node : Int)) ∧ W.cell? ⟨gl, 3, none⟩ = some (.int .i64 X) ∧ W.cell? ⟨gl, 4, none⟩ = some (.slice none 0 0) ∧ W.cell? ⟨S.c, 0, none⟩ = some (.int .i64 (S.node : Int))) W) := Lib.hid fun W hb => by
    obtain ⟨l0, l1, l2, l3, l4⟩ := box5 ((hb.block gl (lt_of_heap hl5)).trans hl5)
    obtain ⟨d0, _⟩ := box7_ (hc0.below hb).box
    exact ⟨l0, l1, l2, l3, l4, d0⟩
  obtain ⟨n, s0, a, o, y0, t0⟩ := e
  simp only at hes ⊢
  subst hes
  obtain ⟨y, hy⟩ : ∃ y : Int, y = (y0 : Int) := ⟨_, rfl⟩
  obtain ⟨s, hs⟩ : ∃ s : Int, s = (t0 : Int) := ⟨_, rfl⟩
  have HLK : Hid (∀ W, Below W0.heap.size W0 W → (Instr.lookup 61 (.map (some S.m)) (.int .i64 X) false).run Try.prog W = .ok (.agg #[.int .i64 3, .int .i64 (a : Int), .int .i64 (o : Int), .int .i64 y, .int .i64 s]) W) := Lib.hid fun W hb => by
    have h1 := (hc0.below hb).map.look hxi
    unfold stT at h1
    rw [hX]
    simp only [he, Te.v, teV] at h1
    rw [hy, hs]
    exact h1
  have HH0 := Lib.hid h
  have HVN : Hid (∀ (kk : Int) W, Calls Try.prog 29 #[.pointer (some ⟨S.c, 0, none⟩), .agg #[.int .i64 kk, .int .i64 (f : Int), .int .i64 (S.node : Int), .int .i64 X, .slice none 0 0], .agg #[.int .i64 3, .int .i64 (a : Int), .int .i64 (o : Int), .int .i64 y, .int .i64 s]] W (Ans (.int .i64 0) W)) := Lib.hid fun kk W => vote_cm S.c kk (f : Int) (S.node : Int) X (a : Int) (o : Int) y s W
  clear he hy hs
  rw [← hX] at HRT
  rw [← hX, ← hk]
  have HC := Lib.hid (closed_any hc0)
  rw [hW0, hL5] at HC
  have HW0 := Lib.hid hW0
  rw [hL5] at HW0
  have HGL := Lib.hid hgl
  have HXX := Lib.hid hX
  have HCW : Hid (∀ W, Below W0.heap.size W0 W → Co W B S) := Lib.hid fun W hb => hc0.below hb
  have HL5 : Hid (∀ W, Below W0.heap.size W0 W → W.heap[gl]? = some (.cells #[.int .i64 k, .int .i64 (f : Int), .int .i64 (S.node : Int), .int .i64 X, .slice none 0 0] 46 (0, 0))) := Lib.hid fun W hb => (hb.block gl (lt_of_heap hl5)).trans hl5
  obtain ⟨_, _, _, _, _, c5, _⟩ := box7_ hc0.box
  have HKK := Lib.hid hk
  clear h hk hf16 hx hxn hxi hX hb0 hl5 hc0 hW0 hL5 hgl hX16
  go_enter Try.func14, Try.ntmps14
  go_upto_region 3 with (go_at_call 24; refine HC.out.mono ?_; rintro e1 w1 ⟨rfl, rfl⟩)
  rw [← HW0.out]
  have hSS := HS3.out _ (drew_below W0)
  rw [← HGL.out]
  refine wp_region_held_drew (S := (fun W : World => W.cell? ⟨gl, 0, none⟩ = some (.int .i64 k) ∧ W.cell? ⟨gl, 1, none⟩ = some (.int .i64 (f : Int)) ∧ W.cell? ⟨gl, 2, none⟩ = some (.int .i64 (S.node : Int)) ∧ W.cell? ⟨gl, 3, none⟩ = some (.int .i64 X) ∧ W.cell? ⟨gl, 4, none⟩ = some (.slice none 0 0) ∧ W.cell? ⟨S.c, 0, none⟩ = some (.int .i64 (S.node : Int)))) (by kernel_rfl) hSS (fun _ => ?_)
  refine wpAnyH_take (i := 0) (oi := ({ dst := Option.some 10, op := Go.Op.load 46 (Go.Operand.tmp 3), type := 46, pos := "coordinator.go:83", after := #[], guard := Option.none } : Oper)) (v := ?v0x8) rfl (by kernel_rfl) (by kernel_rfl) (by kernel_rfl) (fun _ _ _ h => h) (Or.inl ⟨by rfl, ?hy0x8⟩) hSS ?rest0x8
  case hy0x8 =>
    intro W0 hSw
    obtain ⟨s0, s1, s2, s3, s4, s5⟩ := hSw
    go_simp
    first | done | with_reducible rfl
  try simp only [Act.put, List.setIfInBounds_toArray, List.set_cons_zero, List.set_cons_succ]
  refine wpAnyH_ready (rs := [1]) (by kernel_rfl) (by simp) ?_
  refine AllReadyH.cons (o := ({ dst := Option.some 11, op := Go.Op.call { callee := Go.Callee.value (Go.Operand.func 25), args := #[Go.Operand.tmp 10], argTypes := #[46] }, type := 4, pos := "coordinator.go:83", after := #[{ on := 0, ground := Go.Ground.data }], guard := Option.none } : Oper)) rfl (fun K0 hK0 => ?_) AllReadyH.nil
  go_simp
  go_at_call 25
  refine (HRT.out _).mono ?_
  rintro e1 w1 ⟨rfl, hb1⟩
  have HB1 := Lib.hid ((drew_below W0).trans (Below.mono hb1 (Nat.le_refl _)))
  have hSS := HS3.out _ HB1.out
  clear hb1
  try go_wp2_with fail
  refine hK0.out _ _ hSS (fun _ => ?_)
  clear hK0 K0
  try simp only [Act.put, List.setIfInBounds_toArray, List.set_cons_zero, List.set_cons_succ]
  refine wpAnyH_take (i := 2) (oi := ({ dst := Option.some 12, op := Go.Op.unOp Go.UnOp.not 4 (Go.Operand.tmp 11), type := 4, pos := "coordinator.go:83", after := #[{ on := 1, ground := Go.Ground.data }], guard := Option.none } : Oper)) (v := ?v2x9) rfl (by kernel_rfl) (by kernel_rfl) (by kernel_rfl) (fun _ _ _ h => h) (Or.inl ⟨by rfl, ?hy2x9⟩) hSS ?rest2x9
  case hy2x9 =>
    intro W0 hSw
    obtain ⟨s0, s1, s2, s3, s4, s5⟩ := hSw
    go_simp
    first | done | with_reducible rfl
  try simp only [Act.put, List.setIfInBounds_toArray, List.set_cons_zero, List.set_cons_succ]
  refine wpAnyH_take (i := 3) (oi := ({ dst := Option.some 13, op := Go.Op.move (Go.Operand.tmp 12), type := 4, pos := "coordinator.go:83", after := #[{ on := 2, ground := Go.Ground.data }, { on := 1, ground := Go.Ground.chain }], guard := Option.none } : Oper)) (v := ?v3x10) rfl (by kernel_rfl) (by kernel_rfl) (by kernel_rfl) (fun _ _ _ h => h) (Or.inl ⟨by rfl, ?hy3x10⟩) hSS ?rest3x10
  case hy3x10 =>
    intro W0 hSw
    obtain ⟨s0, s1, s2, s3, s4, s5⟩ := hSw
    go_simp
    first | done | with_reducible rfl
  try simp only [Act.put, List.setIfInBounds_toArray, List.set_cons_zero, List.set_cons_succ]
  refine wpAnyH_take (i := 4) (oi := ({ dst := Option.some 14, op := Go.Op.fieldAddr 46 (Go.Operand.tmp 3) 2, type := 0, pos := "coordinator.go:83", after := #[{ on := 3, ground := Go.Ground.guard }], guard := Option.some (3, Bool.false) } : Oper)) (v := ?v4x11) rfl (by kernel_rfl) (by kernel_rfl) (by kernel_rfl) (fun _ _ _ h => h) (Or.inl ⟨by rfl, ?hy4x11⟩) hSS ?rest4x11
  case hy4x11 =>
    intro W0 hSw
    obtain ⟨s0, s1, s2, s3, s4, s5⟩ := hSw
    go_simp
    first | done | with_reducible rfl
  try simp only [Act.put, List.setIfInBounds_toArray, List.set_cons_zero, List.set_cons_succ]
  refine wpAnyH_take (i := 5) (oi := ({ dst := Option.some 15, op := Go.Op.load 3 (Go.Operand.tmp 14), type := 3, pos := "coordinator.go:83", after := #[{ on := 4, ground := Go.Ground.data }, { on := 3, ground := Go.Ground.guard }], guard := Option.some (3, Bool.false) } : Oper)) (v := ?v5x12) rfl (by kernel_rfl) (by kernel_rfl) (by kernel_rfl) (fun _ _ _ h => h) (Or.inl ⟨by rfl, ?hy5x12⟩) hSS ?rest5x12
  case hy5x12 =>
    intro W0 hSw
    obtain ⟨s0, s1, s2, s3, s4, s5⟩ := hSw
    go_simp
    first | done | with_reducible rfl
  try simp only [Act.put, List.setIfInBounds_toArray, List.set_cons_zero, List.set_cons_succ]
  refine wpAnyH_take (i := 6) (oi := ({ dst := Option.some 16, op := Go.Op.move (Go.Operand.tmp 0), type := 28, pos := "coordinator.go:83", after := #[{ on := 3, ground := Go.Ground.guard }], guard := Option.some (3, Bool.false) } : Oper)) (v := ?v6x13) rfl (by kernel_rfl) (by kernel_rfl) (by kernel_rfl) (fun _ _ _ h => h) (Or.inl ⟨by rfl, ?hy6x13⟩) hSS ?rest6x13
  case hy6x13 =>
    intro W0 hSw
    obtain ⟨s0, s1, s2, s3, s4, s5⟩ := hSw
    go_simp
    first | done | with_reducible rfl
  try simp only [Act.put, List.setIfInBounds_toArray, List.set_cons_zero, List.set_cons_succ]
  refine wpAnyH_take (i := 7) (oi := ({ dst := Option.some 17, op := Go.Op.nilCheck (Go.Operand.tmp 16), type := 0, pos := "coordinator.go:83", after := #[{ on := 6, ground := Go.Ground.data }, { on := 3, ground := Go.Ground.guard }], guard := Option.some (3, Bool.false) } : Oper)) (v := ?v7x14) rfl (by kernel_rfl) (by kernel_rfl) (by kernel_rfl) (fun _ _ _ h => h) (Or.inl ⟨by rfl, ?hy7x14⟩) hSS ?rest7x14
  case hy7x14 =>
    intro W0 hSw
    obtain ⟨s0, s1, s2, s3, s4, s5⟩ := hSw
    go_simp
    first | done | with_reducible rfl
  try simp only [Act.put, List.setIfInBounds_toArray, List.set_cons_zero, List.set_cons_succ]
  refine wpAnyH_take (i := 8) (oi := ({ dst := Option.some 18, op := Go.Op.fieldAddr 63 (Go.Operand.tmp 17) 0, type := 0, pos := "coordinator.go:83", after := #[{ on := 7, ground := Go.Ground.data }, { on := 3, ground := Go.Ground.guard }], guard := Option.some (3, Bool.false) } : Oper)) (v := ?v8x15) rfl (by kernel_rfl) (by kernel_rfl) (by kernel_rfl) (fun _ _ _ h => h) (Or.inl ⟨by rfl, ?hy8x15⟩) hSS ?rest8x15
  case hy8x15 =>
    intro W0 hSw
    obtain ⟨s0, s1, s2, s3, s4, s5⟩ := hSw
    go_simp
    first | done | with_reducible rfl
  try simp only [Act.put, List.setIfInBounds_toArray, List.set_cons_zero, List.set_cons_succ]
  refine wpAnyH_take (i := 9) (oi := ({ dst := Option.some 19, op := Go.Op.load 3 (Go.Operand.tmp 18), type := 3, pos := "coordinator.go:83", after := #[{ on := 8, ground := Go.Ground.data }, { on := 3, ground := Go.Ground.guard }], guard := Option.some (3, Bool.false) } : Oper)) (v := ?v9x16) rfl (by kernel_rfl) (by kernel_rfl) (by kernel_rfl) (fun _ _ _ h => h) (Or.inl ⟨by rfl, ?hy9x16⟩) hSS ?rest9x16
  case hy9x16 =>
    intro W0 hSw
    obtain ⟨s0, s1, s2, s3, s4, s5⟩ := hSw
    go_simp
    first | done | with_reducible rfl
  try simp only [Act.put, List.setIfInBounds_toArray, List.set_cons_zero, List.set_cons_succ]
  refine wpAnyH_take (i := 10) (oi := ({ dst := Option.some 20, op := Go.Op.binOp Go.BinOp.neq 3 (Go.Operand.tmp 15) (Go.Operand.tmp 19) 3, type := 4, pos := "coordinator.go:83", after := #[{ on := 5, ground := Go.Ground.data }, { on := 9, ground := Go.Ground.data }, { on := 3, ground := Go.Ground.guard }], guard := Option.some (3, Bool.false) } : Oper)) (v := ?v10x17) rfl (by kernel_rfl) (by kernel_rfl) (by kernel_rfl) (fun _ _ _ h => h) (Or.inl ⟨by rfl, ?hy10x17⟩) hSS ?rest10x17
  case hy10x17 =>
    intro W0 hSw
    obtain ⟨s0, s1, s2, s3, s4, s5⟩ := hSw
    go_simp
    first | done | with_reducible rfl
  try simp only [Act.put, List.setIfInBounds_toArray, List.set_cons_zero, List.set_cons_succ]
  refine wpAnyH_take (i := 11) (oi := ({ dst := Option.some 21, op := Go.Op.pick (Go.Operand.tmp 13) (Go.Operand.const (Go.Value.bool Bool.true)) (Go.Operand.tmp 20), type := 4, pos := "coordinator.go:83", after := #[{ on := 3, ground := Go.Ground.data }, { on := 10, ground := Go.Ground.data }], guard := Option.none } : Oper)) (v := ?v11x18) rfl (by kernel_rfl) (by kernel_rfl) (by kernel_rfl) (fun _ _ _ h => h) (Or.inl ⟨by rfl, ?hy11x18⟩) hSS ?rest11x18
  case hy11x18 =>
    intro W0 hSw
    obtain ⟨s0, s1, s2, s3, s4, s5⟩ := hSw
    go_simp
    first | done | with_reducible rfl
  try simp only [Act.put, List.setIfInBounds_toArray, List.set_cons_zero, List.set_cons_succ]
  refine wpAnyH_take (i := 12) (oi := ({ dst := Option.some 22, op := Go.Op.move (Go.Operand.tmp 21), type := 4, pos := "coordinator.go:83", after := #[{ on := 11, ground := Go.Ground.data }, { on := 3, ground := Go.Ground.chain }], guard := Option.none } : Oper)) (v := ?v12x19) rfl (by kernel_rfl) (by kernel_rfl) (by kernel_rfl) (fun _ _ _ h => h) (Or.inl ⟨by rfl, ?hy12x19⟩) hSS ?rest12x19
  case hy12x19 =>
    intro W0 hSw
    obtain ⟨s0, s1, s2, s3, s4, s5⟩ := hSw
    go_simp
    first | done | with_reducible rfl
  try simp only [Act.put, List.setIfInBounds_toArray, List.set_cons_zero, List.set_cons_succ]
  refine wpAnyH_take (i := 13) (oi := ({ dst := Option.some 23, op := Go.Op.fieldAddr 46 (Go.Operand.tmp 3) 3, type := 0, pos := "coordinator.go:83", after := #[{ on := 12, ground := Go.Ground.guard }], guard := Option.some (12, Bool.false) } : Oper)) (v := ?v13x20) rfl (by kernel_rfl) (by kernel_rfl) (by kernel_rfl) (fun _ _ _ h => h) (Or.inl ⟨by rfl, ?hy13x20⟩) hSS ?rest13x20
  case hy13x20 =>
    intro W0 hSw
    obtain ⟨s0, s1, s2, s3, s4, s5⟩ := hSw
    go_simp
    first | done | with_reducible rfl
  try simp only [Act.put, List.setIfInBounds_toArray, List.set_cons_zero, List.set_cons_succ]
  refine wpAnyH_take (i := 14) (oi := ({ dst := Option.some 24, op := Go.Op.load 3 (Go.Operand.tmp 23), type := 3, pos := "coordinator.go:83", after := #[{ on := 13, ground := Go.Ground.data }, { on := 12, ground := Go.Ground.guard }], guard := Option.some (12, Bool.false) } : Oper)) (v := ?v14x21) rfl (by kernel_rfl) (by kernel_rfl) (by kernel_rfl) (fun _ _ _ h => h) (Or.inl ⟨by rfl, ?hy14x21⟩) hSS ?rest14x21
  case hy14x21 =>
    intro W0 hSw
    obtain ⟨s0, s1, s2, s3, s4, s5⟩ := hSw
    go_simp
    first | done | with_reducible rfl
  try simp only [Act.put, List.setIfInBounds_toArray, List.set_cons_zero, List.set_cons_succ]
  refine wpAnyH_take (i := 15) (oi := ({ dst := Option.some 25, op := Go.Op.binOp Go.BinOp.rem 3 (Go.Operand.tmp 24) (Go.Operand.const (Go.Value.int Go.IntKind.i64 16)) 3, type := 3, pos := "coordinator.go:83", after := #[{ on := 14, ground := Go.Ground.data }, { on := 12, ground := Go.Ground.guard }], guard := Option.some (12, Bool.false) } : Oper)) (v := ?v15x22) rfl (by kernel_rfl) (by kernel_rfl) (by kernel_rfl) (fun _ _ _ h => h) (Or.inl ⟨by rfl, ?hy15x22⟩) hSS ?rest15x22
  case hy15x22 =>
    intro W0 hSw
    obtain ⟨s0, s1, s2, s3, s4, s5⟩ := hSw
    go_simp
    first | done | with_reducible rfl
  try simp only [Act.put, List.setIfInBounds_toArray, List.set_cons_zero, List.set_cons_succ]
  refine wpAnyH_take (i := 16) (oi := ({ dst := Option.some 26, op := Go.Op.move (Go.Operand.tmp 0), type := 28, pos := "coordinator.go:83", after := #[{ on := 12, ground := Go.Ground.guard }], guard := Option.some (12, Bool.false) } : Oper)) (v := ?v16x23) rfl (by kernel_rfl) (by kernel_rfl) (by kernel_rfl) (fun _ _ _ h => h) (Or.inl ⟨by rfl, ?hy16x23⟩) hSS ?rest16x23
  case hy16x23 =>
    intro W0 hSw
    obtain ⟨s0, s1, s2, s3, s4, s5⟩ := hSw
    go_simp
    first | done | with_reducible rfl
  try simp only [Act.put, List.setIfInBounds_toArray, List.set_cons_zero, List.set_cons_succ]
  refine wpAnyH_take (i := 17) (oi := ({ dst := Option.some 27, op := Go.Op.nilCheck (Go.Operand.tmp 26), type := 0, pos := "coordinator.go:83", after := #[{ on := 16, ground := Go.Ground.data }, { on := 12, ground := Go.Ground.guard }], guard := Option.some (12, Bool.false) } : Oper)) (v := ?v17x24) rfl (by kernel_rfl) (by kernel_rfl) (by kernel_rfl) (fun _ _ _ h => h) (Or.inl ⟨by rfl, ?hy17x24⟩) hSS ?rest17x24
  case hy17x24 =>
    intro W0 hSw
    obtain ⟨s0, s1, s2, s3, s4, s5⟩ := hSw
    go_simp
    first | done | with_reducible rfl
  try simp only [Act.put, List.setIfInBounds_toArray, List.set_cons_zero, List.set_cons_succ]
  refine wpAnyH_take (i := 18) (oi := ({ dst := Option.some 28, op := Go.Op.fieldAddr 63 (Go.Operand.tmp 27) 0, type := 0, pos := "coordinator.go:83", after := #[{ on := 17, ground := Go.Ground.data }, { on := 12, ground := Go.Ground.guard }], guard := Option.some (12, Bool.false) } : Oper)) (v := ?v18x25) rfl (by kernel_rfl) (by kernel_rfl) (by kernel_rfl) (fun _ _ _ h => h) (Or.inl ⟨by rfl, ?hy18x25⟩) hSS ?rest18x25
  case hy18x25 =>
    intro W0 hSw
    obtain ⟨s0, s1, s2, s3, s4, s5⟩ := hSw
    go_simp
    first | done | with_reducible rfl
  try simp only [Act.put, List.setIfInBounds_toArray, List.set_cons_zero, List.set_cons_succ]
  refine wpAnyH_take (i := 19) (oi := ({ dst := Option.some 29, op := Go.Op.load 3 (Go.Operand.tmp 28), type := 3, pos := "coordinator.go:83", after := #[{ on := 18, ground := Go.Ground.data }, { on := 12, ground := Go.Ground.guard }], guard := Option.some (12, Bool.false) } : Oper)) (v := ?v19x26) rfl (by kernel_rfl) (by kernel_rfl) (by kernel_rfl) (fun _ _ _ h => h) (Or.inl ⟨by rfl, ?hy19x26⟩) hSS ?rest19x26
  case hy19x26 =>
    intro W0 hSw
    obtain ⟨s0, s1, s2, s3, s4, s5⟩ := hSw
    go_simp
    first | done | with_reducible rfl
  try simp only [Act.put, List.setIfInBounds_toArray, List.set_cons_zero, List.set_cons_succ]
  refine wpAnyH_take (i := 20) (oi := ({ dst := Option.some 30, op := Go.Op.binOp Go.BinOp.neq 3 (Go.Operand.tmp 25) (Go.Operand.tmp 29) 3, type := 4, pos := "coordinator.go:83", after := #[{ on := 15, ground := Go.Ground.data }, { on := 19, ground := Go.Ground.data }, { on := 12, ground := Go.Ground.guard }], guard := Option.some (12, Bool.false) } : Oper)) (v := ?v20x27) rfl (by kernel_rfl) (by kernel_rfl) (by kernel_rfl) (fun _ _ _ h => h) (Or.inl ⟨by rfl, ?hy20x27⟩) hSS ?rest20x27
  case hy20x27 =>
    intro W0 hSw
    obtain ⟨s0, s1, s2, s3, s4, s5⟩ := hSw
    go_simp
    first | done | with_reducible rfl
  try simp only [Act.put, List.setIfInBounds_toArray, List.set_cons_zero, List.set_cons_succ]
  refine wpAnyH_take (i := 21) (oi := ({ dst := Option.some 31, op := Go.Op.pick (Go.Operand.tmp 22) (Go.Operand.const (Go.Value.bool Bool.true)) (Go.Operand.tmp 30), type := 4, pos := "coordinator.go:83", after := #[{ on := 12, ground := Go.Ground.data }, { on := 20, ground := Go.Ground.data }], guard := Option.none } : Oper)) (v := ?v21x28) rfl (by kernel_rfl) (by kernel_rfl) (by kernel_rfl) (fun _ _ _ h => h) (Or.inl ⟨by rfl, ?hy21x28⟩) hSS ?rest21x28
  case hy21x28 =>
    intro W0 hSw
    obtain ⟨s0, s1, s2, s3, s4, s5⟩ := hSw
    go_simp
    first | done | with_reducible rfl
  try simp only [Act.put, List.setIfInBounds_toArray, List.set_cons_zero, List.set_cons_succ]
  refine wpAnyH_take (i := 22) (oi := ({ dst := Option.some 9, op := Go.Op.assign (Go.Operand.tmp 31), type := 4, pos := "coordinator.go:83", after := #[{ on := 21, ground := Go.Ground.data }, { on := 12, ground := Go.Ground.chain }], guard := Option.none } : Oper)) (v := ?v22x29) rfl (by kernel_rfl) (by kernel_rfl) (by kernel_rfl) (fun _ _ _ h => h) (Or.inl ⟨by rfl, ?hy22x29⟩) hSS ?rest22x29
  case hy22x29 =>
    intro W0 hSw
    obtain ⟨s0, s1, s2, s3, s4, s5⟩ := hSw
    go_simp
    first | done | with_reducible rfl
  try simp only [Act.put, List.setIfInBounds_toArray, List.set_cons_zero, List.set_cons_succ]
  refine wpAnyH_done (by kernel_rfl) ?_ _
  go_upto_region 5 with fail
  have e2 : (k == 2) = false := by rw [HKK.out]; rfl
  have e3 : (k == 3) = false := by rw [HKK.out]; rfl
  have e4 : (k == 4) = true := by rw [HKK.out]; rfl
  have e7 : (k == 7) = false := by rw [HKK.out]; rfl
  have e8 : (k == 8) = false := by rw [HKK.out]; rfl
  have HS5 : Hid (∀ W, Below W0.heap.size W0 W → (fun W : World => W.cell? ⟨S.c, 5, none⟩ = some (.map (some S.m)) ∧ W.cell? ⟨gl, 3, none⟩ = some (.int .i64 X) ∧ (Instr.lookup 61 (.map (some S.m)) (.int .i64 X) false).run Try.prog W = .ok (.agg #[.int .i64 3, .int .i64 (a : Int), .int .i64 (o : Int), .int .i64 y, .int .i64 s]) W) W) := Lib.hid fun W hb => by
    obtain ⟨_, _, _, _, _, d5, _⟩ := box7_ (HCW.out W hb).box
    obtain ⟨_, _, _, l3, _⟩ := box5 (HL5.out W hb)
    exact ⟨d5, l3, HLK.out W hb⟩
  have hS5 := HS5.out _ (HB1.out.trans ((drew_below w1).mono HB1.out.size))
  clear c5
  refine wp_region_held_drew (S := (fun W : World => W.cell? ⟨S.c, 5, none⟩ = some (.map (some S.m)) ∧ W.cell? ⟨gl, 3, none⟩ = some (.int .i64 X) ∧ (Instr.lookup 61 (.map (some S.m)) (.int .i64 X) false).run Try.prog W = .ok (.agg #[.int .i64 3, .int .i64 (a : Int), .int .i64 (o : Int), .int .i64 y, .int .i64 s]) W)) (by kernel_rfl) hS5 (fun _ => ?_)
  refine wpAnyH_take (i := 0) (oi := ({ dst := Option.some 32, op := Go.Op.move (Go.Operand.tmp 0), type := 28, pos := "coordinator.go:86", after := #[], guard := Option.none } : Oper)) (v := ?v0x30) rfl (by kernel_rfl) (by kernel_rfl) (by kernel_rfl) (fun _ _ _ h => h) (Or.inl ⟨by rfl, ?hy0x30⟩) hS5 ?rest0x30
  case hy0x30 =>
    intro W0 hSw
    obtain ⟨s0, s1, s2⟩ := hSw
    go_simp
    first | done | with_reducible rfl
  try simp only [Act.put, List.setIfInBounds_toArray, List.set_cons_zero, List.set_cons_succ]
  refine wpAnyH_take (i := 1) (oi := ({ dst := Option.some 33, op := Go.Op.nilCheck (Go.Operand.tmp 32), type := 0, pos := "coordinator.go:86", after := #[{ on := 0, ground := Go.Ground.data }], guard := Option.none } : Oper)) (v := ?v1x31) rfl (by kernel_rfl) (by kernel_rfl) (by kernel_rfl) (fun _ _ _ h => h) (Or.inl ⟨by rfl, ?hy1x31⟩) hS5 ?rest1x31
  case hy1x31 =>
    intro W0 hSw
    obtain ⟨s0, s1, s2⟩ := hSw
    go_simp
    first | done | with_reducible rfl
  try simp only [Act.put, List.setIfInBounds_toArray, List.set_cons_zero, List.set_cons_succ]
  refine wpAnyH_take (i := 2) (oi := ({ dst := Option.some 34, op := Go.Op.fieldAddr 63 (Go.Operand.tmp 33) 5, type := 0, pos := "coordinator.go:86", after := #[{ on := 1, ground := Go.Ground.data }], guard := Option.none } : Oper)) (v := ?v2x32) rfl (by kernel_rfl) (by kernel_rfl) (by kernel_rfl) (fun _ _ _ h => h) (Or.inl ⟨by rfl, ?hy2x32⟩) hS5 ?rest2x32
  case hy2x32 =>
    intro W0 hSw
    obtain ⟨s0, s1, s2⟩ := hSw
    go_simp
    first | done | with_reducible rfl
  try simp only [Act.put, List.setIfInBounds_toArray, List.set_cons_zero, List.set_cons_succ]
  refine wpAnyH_take (i := 3) (oi := ({ dst := Option.some 35, op := Go.Op.load 61 (Go.Operand.tmp 34), type := 61, pos := "coordinator.go:86", after := #[{ on := 2, ground := Go.Ground.data }], guard := Option.none } : Oper)) (v := ?v3x33) rfl (by kernel_rfl) (by kernel_rfl) (by kernel_rfl) (fun _ _ _ h => h) (Or.inl ⟨by rfl, ?hy3x33⟩) hS5 ?rest3x33
  case hy3x33 =>
    intro W0 hSw
    obtain ⟨s0, s1, s2⟩ := hSw
    go_simp
    first | done | with_reducible rfl
  try simp only [Act.put, List.setIfInBounds_toArray, List.set_cons_zero, List.set_cons_succ]
  refine wpAnyH_take (i := 4) (oi := ({ dst := Option.some 36, op := Go.Op.fieldAddr 46 (Go.Operand.tmp 3) 3, type := 0, pos := "coordinator.go:86", after := #[], guard := Option.none } : Oper)) (v := ?v4x34) rfl (by kernel_rfl) (by kernel_rfl) (by kernel_rfl) (fun _ _ _ h => h) (Or.inl ⟨by rfl, ?hy4x34⟩) hS5 ?rest4x34
  case hy4x34 =>
    intro W0 hSw
    obtain ⟨s0, s1, s2⟩ := hSw
    go_simp
    first | done | with_reducible rfl
  try simp only [Act.put, List.setIfInBounds_toArray, List.set_cons_zero, List.set_cons_succ]
  refine wpAnyH_take (i := 5) (oi := ({ dst := Option.some 37, op := Go.Op.load 3 (Go.Operand.tmp 36), type := 3, pos := "coordinator.go:86", after := #[{ on := 4, ground := Go.Ground.data }], guard := Option.none } : Oper)) (v := ?v5x35) rfl (by kernel_rfl) (by kernel_rfl) (by kernel_rfl) (fun _ _ _ h => h) (Or.inl ⟨by rfl, ?hy5x35⟩) hS5 ?rest5x35
  case hy5x35 =>
    intro W0 hSw
    obtain ⟨s0, s1, s2⟩ := hSw
    go_simp
    first | done | with_reducible rfl
  try simp only [Act.put, List.setIfInBounds_toArray, List.set_cons_zero, List.set_cons_succ]
  refine wpAnyH_take (i := 6) (oi := ({ dst := Option.some 38, op := Go.Op.lookup 61 (Go.Operand.tmp 35) (Go.Operand.tmp 37) Bool.false, type := 67, pos := "coordinator.go:86", after := #[{ on := 3, ground := Go.Ground.data }, { on := 5, ground := Go.Ground.data }], guard := Option.none } : Oper)) (v := ?v6x36) rfl (by kernel_rfl) (by kernel_rfl) (by kernel_rfl) (fun _ _ _ h => h) (Or.inl ⟨by rfl, ?hy6x36⟩) hS5 ?rest6x36
  case hy6x36 =>
    intro W0 hSw
    obtain ⟨s0, s1, s2⟩ := hSw
    go_simp
    first | done | with_reducible rfl
  try simp only [Act.put, List.setIfInBounds_toArray, List.set_cons_zero, List.set_cons_succ]
  refine wpAnyH_ready (rs := [7]) (by kernel_rfl) (by simp) ?_
  refine AllReadyH.cons (o := ({ dst := Option.some 5, op := Go.Op.alloc 67, type := 0, pos := "coordinator.go:86", after := #[], guard := Option.none } : Oper)) rfl (fun K0 hK0 => ?_) AllReadyH.nil
  go_simp
  refine hK0.out _ _ (HS5.out _ ?hb7) (fun _ => ?_)
  case hb7 => first | exact HB1.out.trans (((alloc_below w1 _).trans ((drew_below _).mono (by simp))).mono HB1.out.size) | exact HB1.out.trans (((drew_below w1).trans (alloc_below w1.drew _)).mono HB1.out.size)
  clear hK0 K0
  try simp only [Act.put, List.setIfInBounds_toArray, List.set_cons_zero, List.set_cons_succ]
  refine wpAnyH_ready (rs := [8]) (by kernel_rfl) (by simp) ?_
  refine AllReadyH.cons (o := ({ dst := Option.none, op := Go.Op.store 67 (Go.Operand.tmp 5) (Go.Operand.tmp 38), type := 0, pos := "coordinator.go:86", after := #[{ on := 7, ground := Go.Ground.data }, { on := 6, ground := Go.Ground.data }, { on := 0, ground := Go.Ground.phase }, { on := 1, ground := Go.Ground.phase }, { on := 2, ground := Go.Ground.phase }, { on := 3, ground := Go.Ground.phase }, { on := 4, ground := Go.Ground.phase }, { on := 5, ground := Go.Ground.phase }, { on := 6, ground := Go.Ground.phase }, { on := 7, ground := Go.Ground.phase }], guard := Option.none } : Oper)) rfl (fun K0 hK0 => ?_) AllReadyH.nil
  go_simp
  refine hK0.out _ _ (HS5.out _ ?hb8) (fun _ => ?_)
  case hb8 => first | exact HB1.out.trans (((alloc_below w1 _).trans ((drew_below _).mono (by simp))).mono HB1.out.size) | exact HB1.out.trans (((drew_below w1).trans (alloc_below w1.drew _)).mono HB1.out.size)
  clear hK0 K0
  try simp only [Act.put, List.setIfInBounds_toArray, List.set_cons_zero, List.set_cons_succ]
  refine wpAnyH_done (by kernel_rfl) ?_ _
  obtain ⟨W5, hW5⟩ : ∃ W5, Hid (W5 = (w1.alloc (.cells #[.int .i64 3, .int .i64 (a : Int), .int .i64 (o : Int), .int .i64 y, .int .i64 s] 67)).drew) := ⟨_, Lib.hid rfl⟩
  rw [← hW5.out]
  have hb5 : Below W0.heap.size W0 W5 := by rw [hW5.out]; exact HB1.out.trans (((alloc_below w1 _).trans ((drew_below _).mono (by simp))).mono HB1.out.size)
  have ht5 : W5.heap[w1.heap.size]? = some (.cells #[.int .i64 3, .int .i64 (a : Int), .int .i64 (o : Int), .int .i64 y, .int .i64 s] 67 (0, 0)) := by rw [hW5.out]; exact heap_alloc_new w1 _
  obtain ⟨l0, l1, l2, l3, l4⟩ := box5 (HL5.out _ hb5)
  obtain ⟨z0, z1, z2, z3, z4⟩ := box5 ht5
  have hcw := HCW.out _ hb5
  have HV := Lib.hid (HVN.out k W5)
  have HB5 := Lib.hid hb5
  clear hb5 ht5 hcw
  go_wp2_with (go_at_call 29; refine HV.out.mono ?_; rintro e1 w6 ⟨rfl, hl⟩
               have HE := Lib.hid (LtT.none HH0.out (HB0.out.trans ((HB5.out.trans (hl.mono HB5.out.size)).mono HB0.out.size)))
               clear hl)
  go_ret
  exact ⟨rfl, HE.out⟩
set_option maxRecDepth 100000 in
set_option maxHeartbeats 16000000 in
theorem hear_yc {w : World} {B : Nat} {S : CoS} (h : Co w B S) {f x : Nat} (hf16 : f < 16) (hx : x < 1099511627776) (hxn : x % 16 = S.node) {e : Te} (he : findT S.T x = some e) (hes : e.s = 3) (hos : S.os.length ≤ 50000) :
    Calls Try.prog 14 #[.pointer (some ⟨S.c, 0, none⟩), .agg #[.int .i64 2, .int .i64 (f : Int), .int .i64 (S.node : Int), .int .i64 (x : Int), .slice none 0 0]] w (fun e1 w' => e1 = .returned (.int .i64 0) ∧ LtT w B S S.T [(5, (S.node : Int), (f : Int), (x : Int), 0)] w') := by
  have hxi : i64ok (x : Int) := by unfold i64ok; omega
  obtain ⟨k, hk⟩ : ∃ k : Int, k = 2 := ⟨_, rfl⟩
  have HRT := Lib.hid (fun W => rightL_any k (f : Int) (S.node : Int) (x : Int) [] none 0 0 rfl (by omega) W (RdI.nil _ _ _))
  rw [right_of (by omega) hf16 h.nod (by omega)] at HRT
  obtain ⟨X, hX⟩ : ∃ X : Int, X = (x : Int) := ⟨_, rfl⟩
  have hX16 : X % 16 = (S.node : Int) := by omega
  have hX17 : X.tmod 16 = (S.node : Int) := by rw [Int.tmod_eq_emod_of_nonneg (by omega)]; exact hX16
  have hX0 : 0 ≤ X := by omega
  have hnn : ((S.node : Int) != (S.node : Int)) = false := by simp
  obtain ⟨gl, hgl⟩ : ∃ gl, gl = w.heap.size := ⟨_, rfl⟩
  obtain ⟨L5, hL5⟩ : ∃ L5, L5 = Obj.cells #[.int .i64 k, .int .i64 (f : Int), .int .i64 (S.node : Int), .int .i64 X, .slice none 0 0] 46 := ⟨_, rfl⟩
  have hb0 := alloc_below w L5
  have hl5 := heap_alloc_new w L5
  obtain ⟨W0, hW0⟩ : ∃ W0, W0 = w.alloc L5 := ⟨_, rfl⟩
  rw [← hW0] at hb0 hl5
  rw [← hgl, hL5] at hl5
  have hc0 := h.below hb0
  have HB0 := Lib.hid hb0
  have HS3 : Hid (∀ W, Below W0.heap.size W0 W → (fun W : World => W.cell? ⟨gl, 0, none⟩ = some (.int .i64 k) ∧ W.cell? ⟨gl, 1, none⟩ = some (.int .i64 (f : Int)) ∧ W.cell? ⟨gl, 2, none⟩ = some (.int .i64 (S.node : Int)) ∧ W.cell? ⟨gl, 3, none⟩ = some (.int .i64 X) ∧ W.cell? ⟨gl, 4, none⟩ = some (.slice none 0 0) ∧ W.cell? ⟨S.c, 0, none⟩ = some (.int .i64 (S.node : Int))) W) := Lib.hid fun W hb => by
    obtain ⟨l0, l1, l2, l3, l4⟩ := box5 ((hb.block gl (lt_of_heap hl5)).trans hl5)
    obtain ⟨d0, _⟩ := box7_ (hc0.below hb).box
    exact ⟨l0, l1, l2, l3, l4, d0⟩
  obtain ⟨n, s0, a, o, y0, t0⟩ := e
  simp only at hes ⊢
  subst hes
  obtain ⟨y, hy⟩ : ∃ y : Int, y = (y0 : Int) := ⟨_, rfl⟩
  obtain ⟨s, hs⟩ : ∃ s : Int, s = (t0 : Int) := ⟨_, rfl⟩
  have HLK : Hid (∀ W, Below W0.heap.size W0 W → (Instr.lookup 61 (.map (some S.m)) (.int .i64 X) false).run Try.prog W = .ok (.agg #[.int .i64 3, .int .i64 (a : Int), .int .i64 (o : Int), .int .i64 y, .int .i64 s]) W) := Lib.hid fun W hb => by
    have h1 := (hc0.below hb).map.look hxi
    unfold stT at h1
    rw [hX]
    simp only [he, Te.v, teV] at h1
    rw [hy, hs]
    exact h1
  have HF16 := Lib.hid hf16
  have HOS := Lib.hid hos
  clear he hy hs
  rw [← hX] at HRT
  rw [← hX, ← hk]
  have HC := Lib.hid (closed_any hc0)
  rw [hW0, hL5] at HC
  have HW0 := Lib.hid hW0
  rw [hL5] at HW0
  have HGL := Lib.hid hgl
  have HXX := Lib.hid hX
  have HCW : Hid (∀ W, Below W0.heap.size W0 W → Co W B S) := Lib.hid fun W hb => hc0.below hb
  have HL5 : Hid (∀ W, Below W0.heap.size W0 W → W.heap[gl]? = some (.cells #[.int .i64 k, .int .i64 (f : Int), .int .i64 (S.node : Int), .int .i64 X, .slice none 0 0] 46 (0, 0))) := Lib.hid fun W hb => (hb.block gl (lt_of_heap hl5)).trans hl5
  obtain ⟨_, _, _, _, _, c5, _⟩ := box7_ hc0.box
  have HKK := Lib.hid hk
  clear h hk hf16 hx hxn hos hxi hX hb0 hl5 hc0 hW0 hL5 hgl hX16
  go_enter Try.func14, Try.ntmps14
  go_upto_region 3 with (go_at_call 24; refine HC.out.mono ?_; rintro e1 w1 ⟨rfl, rfl⟩)
  rw [← HW0.out]
  have hSS := HS3.out _ (drew_below W0)
  rw [← HGL.out]
  refine wp_region_held_drew (S := (fun W : World => W.cell? ⟨gl, 0, none⟩ = some (.int .i64 k) ∧ W.cell? ⟨gl, 1, none⟩ = some (.int .i64 (f : Int)) ∧ W.cell? ⟨gl, 2, none⟩ = some (.int .i64 (S.node : Int)) ∧ W.cell? ⟨gl, 3, none⟩ = some (.int .i64 X) ∧ W.cell? ⟨gl, 4, none⟩ = some (.slice none 0 0) ∧ W.cell? ⟨S.c, 0, none⟩ = some (.int .i64 (S.node : Int)))) (by kernel_rfl) hSS (fun _ => ?_)
  refine wpAnyH_take (i := 0) (oi := ({ dst := Option.some 10, op := Go.Op.load 46 (Go.Operand.tmp 3), type := 46, pos := "coordinator.go:83", after := #[], guard := Option.none } : Oper)) (v := ?v0x8) rfl (by kernel_rfl) (by kernel_rfl) (by kernel_rfl) (fun _ _ _ h => h) (Or.inl ⟨by rfl, ?hy0x8⟩) hSS ?rest0x8
  case hy0x8 =>
    intro W0 hSw
    obtain ⟨s0, s1, s2, s3, s4, s5⟩ := hSw
    go_simp
    first | done | with_reducible rfl
  try simp only [Act.put, List.setIfInBounds_toArray, List.set_cons_zero, List.set_cons_succ]
  refine wpAnyH_ready (rs := [1]) (by kernel_rfl) (by simp) ?_
  refine AllReadyH.cons (o := ({ dst := Option.some 11, op := Go.Op.call { callee := Go.Callee.value (Go.Operand.func 25), args := #[Go.Operand.tmp 10], argTypes := #[46] }, type := 4, pos := "coordinator.go:83", after := #[{ on := 0, ground := Go.Ground.data }], guard := Option.none } : Oper)) rfl (fun K0 hK0 => ?_) AllReadyH.nil
  go_simp
  go_at_call 25
  refine (HRT.out _).mono ?_
  rintro e1 w1 ⟨rfl, hb1⟩
  have HB1 := Lib.hid ((drew_below W0).trans (Below.mono hb1 (Nat.le_refl _)))
  have hSS := HS3.out _ HB1.out
  clear hb1
  try go_wp2_with fail
  refine hK0.out _ _ hSS (fun _ => ?_)
  clear hK0 K0
  try simp only [Act.put, List.setIfInBounds_toArray, List.set_cons_zero, List.set_cons_succ]
  refine wpAnyH_take (i := 2) (oi := ({ dst := Option.some 12, op := Go.Op.unOp Go.UnOp.not 4 (Go.Operand.tmp 11), type := 4, pos := "coordinator.go:83", after := #[{ on := 1, ground := Go.Ground.data }], guard := Option.none } : Oper)) (v := ?v2x9) rfl (by kernel_rfl) (by kernel_rfl) (by kernel_rfl) (fun _ _ _ h => h) (Or.inl ⟨by rfl, ?hy2x9⟩) hSS ?rest2x9
  case hy2x9 =>
    intro W0 hSw
    obtain ⟨s0, s1, s2, s3, s4, s5⟩ := hSw
    go_simp
    first | done | with_reducible rfl
  try simp only [Act.put, List.setIfInBounds_toArray, List.set_cons_zero, List.set_cons_succ]
  refine wpAnyH_take (i := 3) (oi := ({ dst := Option.some 13, op := Go.Op.move (Go.Operand.tmp 12), type := 4, pos := "coordinator.go:83", after := #[{ on := 2, ground := Go.Ground.data }, { on := 1, ground := Go.Ground.chain }], guard := Option.none } : Oper)) (v := ?v3x10) rfl (by kernel_rfl) (by kernel_rfl) (by kernel_rfl) (fun _ _ _ h => h) (Or.inl ⟨by rfl, ?hy3x10⟩) hSS ?rest3x10
  case hy3x10 =>
    intro W0 hSw
    obtain ⟨s0, s1, s2, s3, s4, s5⟩ := hSw
    go_simp
    first | done | with_reducible rfl
  try simp only [Act.put, List.setIfInBounds_toArray, List.set_cons_zero, List.set_cons_succ]
  refine wpAnyH_take (i := 4) (oi := ({ dst := Option.some 14, op := Go.Op.fieldAddr 46 (Go.Operand.tmp 3) 2, type := 0, pos := "coordinator.go:83", after := #[{ on := 3, ground := Go.Ground.guard }], guard := Option.some (3, Bool.false) } : Oper)) (v := ?v4x11) rfl (by kernel_rfl) (by kernel_rfl) (by kernel_rfl) (fun _ _ _ h => h) (Or.inl ⟨by rfl, ?hy4x11⟩) hSS ?rest4x11
  case hy4x11 =>
    intro W0 hSw
    obtain ⟨s0, s1, s2, s3, s4, s5⟩ := hSw
    go_simp
    first | done | with_reducible rfl
  try simp only [Act.put, List.setIfInBounds_toArray, List.set_cons_zero, List.set_cons_succ]
  refine wpAnyH_take (i := 5) (oi := ({ dst := Option.some 15, op := Go.Op.load 3 (Go.Operand.tmp 14), type := 3, pos := "coordinator.go:83", after := #[{ on := 4, ground := Go.Ground.data }, { on := 3, ground := Go.Ground.guard }], guard := Option.some (3, Bool.false) } : Oper)) (v := ?v5x12) rfl (by kernel_rfl) (by kernel_rfl) (by kernel_rfl) (fun _ _ _ h => h) (Or.inl ⟨by rfl, ?hy5x12⟩) hSS ?rest5x12
  case hy5x12 =>
    intro W0 hSw
    obtain ⟨s0, s1, s2, s3, s4, s5⟩ := hSw
    go_simp
    first | done | with_reducible rfl
  try simp only [Act.put, List.setIfInBounds_toArray, List.set_cons_zero, List.set_cons_succ]
  refine wpAnyH_take (i := 6) (oi := ({ dst := Option.some 16, op := Go.Op.move (Go.Operand.tmp 0), type := 28, pos := "coordinator.go:83", after := #[{ on := 3, ground := Go.Ground.guard }], guard := Option.some (3, Bool.false) } : Oper)) (v := ?v6x13) rfl (by kernel_rfl) (by kernel_rfl) (by kernel_rfl) (fun _ _ _ h => h) (Or.inl ⟨by rfl, ?hy6x13⟩) hSS ?rest6x13
  case hy6x13 =>
    intro W0 hSw
    obtain ⟨s0, s1, s2, s3, s4, s5⟩ := hSw
    go_simp
    first | done | with_reducible rfl
  try simp only [Act.put, List.setIfInBounds_toArray, List.set_cons_zero, List.set_cons_succ]
  refine wpAnyH_take (i := 7) (oi := ({ dst := Option.some 17, op := Go.Op.nilCheck (Go.Operand.tmp 16), type := 0, pos := "coordinator.go:83", after := #[{ on := 6, ground := Go.Ground.data }, { on := 3, ground := Go.Ground.guard }], guard := Option.some (3, Bool.false) } : Oper)) (v := ?v7x14) rfl (by kernel_rfl) (by kernel_rfl) (by kernel_rfl) (fun _ _ _ h => h) (Or.inl ⟨by rfl, ?hy7x14⟩) hSS ?rest7x14
  case hy7x14 =>
    intro W0 hSw
    obtain ⟨s0, s1, s2, s3, s4, s5⟩ := hSw
    go_simp
    first | done | with_reducible rfl
  try simp only [Act.put, List.setIfInBounds_toArray, List.set_cons_zero, List.set_cons_succ]
  refine wpAnyH_take (i := 8) (oi := ({ dst := Option.some 18, op := Go.Op.fieldAddr 63 (Go.Operand.tmp 17) 0, type := 0, pos := "coordinator.go:83", after := #[{ on := 7, ground := Go.Ground.data }, { on := 3, ground := Go.Ground.guard }], guard := Option.some (3, Bool.false) } : Oper)) (v := ?v8x15) rfl (by kernel_rfl) (by kernel_rfl) (by kernel_rfl) (fun _ _ _ h => h) (Or.inl ⟨by rfl, ?hy8x15⟩) hSS ?rest8x15
  case hy8x15 =>
    intro W0 hSw
    obtain ⟨s0, s1, s2, s3, s4, s5⟩ := hSw
    go_simp
    first | done | with_reducible rfl
  try simp only [Act.put, List.setIfInBounds_toArray, List.set_cons_zero, List.set_cons_succ]
  refine wpAnyH_take (i := 9) (oi := ({ dst := Option.some 19, op := Go.Op.load 3 (Go.Operand.tmp 18), type := 3, pos := "coordinator.go:83", after := #[{ on := 8, ground := Go.Ground.data }, { on := 3, ground := Go.Ground.guard }], guard := Option.some (3, Bool.false) } : Oper)) (v := ?v9x16) rfl (by kernel_rfl) (by kernel_rfl) (by kernel_rfl) (fun _ _ _ h => h) (Or.inl ⟨by rfl, ?hy9x16⟩) hSS ?rest9x16
  case hy9x16 =>
    intro W0 hSw
    obtain ⟨s0, s1, s2, s3, s4, s5⟩ := hSw
    go_simp
    first | done | with_reducible rfl
  try simp only [Act.put, List.setIfInBounds_toArray, List.set_cons_zero, List.set_cons_succ]
  refine wpAnyH_take (i := 10) (oi := ({ dst := Option.some 20, op := Go.Op.binOp Go.BinOp.neq 3 (Go.Operand.tmp 15) (Go.Operand.tmp 19) 3, type := 4, pos := "coordinator.go:83", after := #[{ on := 5, ground := Go.Ground.data }, { on := 9, ground := Go.Ground.data }, { on := 3, ground := Go.Ground.guard }], guard := Option.some (3, Bool.false) } : Oper)) (v := ?v10x17) rfl (by kernel_rfl) (by kernel_rfl) (by kernel_rfl) (fun _ _ _ h => h) (Or.inl ⟨by rfl, ?hy10x17⟩) hSS ?rest10x17
  case hy10x17 =>
    intro W0 hSw
    obtain ⟨s0, s1, s2, s3, s4, s5⟩ := hSw
    go_simp
    first | done | with_reducible rfl
  try simp only [Act.put, List.setIfInBounds_toArray, List.set_cons_zero, List.set_cons_succ]
  refine wpAnyH_take (i := 11) (oi := ({ dst := Option.some 21, op := Go.Op.pick (Go.Operand.tmp 13) (Go.Operand.const (Go.Value.bool Bool.true)) (Go.Operand.tmp 20), type := 4, pos := "coordinator.go:83", after := #[{ on := 3, ground := Go.Ground.data }, { on := 10, ground := Go.Ground.data }], guard := Option.none } : Oper)) (v := ?v11x18) rfl (by kernel_rfl) (by kernel_rfl) (by kernel_rfl) (fun _ _ _ h => h) (Or.inl ⟨by rfl, ?hy11x18⟩) hSS ?rest11x18
  case hy11x18 =>
    intro W0 hSw
    obtain ⟨s0, s1, s2, s3, s4, s5⟩ := hSw
    go_simp
    first | done | with_reducible rfl
  try simp only [Act.put, List.setIfInBounds_toArray, List.set_cons_zero, List.set_cons_succ]
  refine wpAnyH_take (i := 12) (oi := ({ dst := Option.some 22, op := Go.Op.move (Go.Operand.tmp 21), type := 4, pos := "coordinator.go:83", after := #[{ on := 11, ground := Go.Ground.data }, { on := 3, ground := Go.Ground.chain }], guard := Option.none } : Oper)) (v := ?v12x19) rfl (by kernel_rfl) (by kernel_rfl) (by kernel_rfl) (fun _ _ _ h => h) (Or.inl ⟨by rfl, ?hy12x19⟩) hSS ?rest12x19
  case hy12x19 =>
    intro W0 hSw
    obtain ⟨s0, s1, s2, s3, s4, s5⟩ := hSw
    go_simp
    first | done | with_reducible rfl
  try simp only [Act.put, List.setIfInBounds_toArray, List.set_cons_zero, List.set_cons_succ]
  refine wpAnyH_take (i := 13) (oi := ({ dst := Option.some 23, op := Go.Op.fieldAddr 46 (Go.Operand.tmp 3) 3, type := 0, pos := "coordinator.go:83", after := #[{ on := 12, ground := Go.Ground.guard }], guard := Option.some (12, Bool.false) } : Oper)) (v := ?v13x20) rfl (by kernel_rfl) (by kernel_rfl) (by kernel_rfl) (fun _ _ _ h => h) (Or.inl ⟨by rfl, ?hy13x20⟩) hSS ?rest13x20
  case hy13x20 =>
    intro W0 hSw
    obtain ⟨s0, s1, s2, s3, s4, s5⟩ := hSw
    go_simp
    first | done | with_reducible rfl
  try simp only [Act.put, List.setIfInBounds_toArray, List.set_cons_zero, List.set_cons_succ]
  refine wpAnyH_take (i := 14) (oi := ({ dst := Option.some 24, op := Go.Op.load 3 (Go.Operand.tmp 23), type := 3, pos := "coordinator.go:83", after := #[{ on := 13, ground := Go.Ground.data }, { on := 12, ground := Go.Ground.guard }], guard := Option.some (12, Bool.false) } : Oper)) (v := ?v14x21) rfl (by kernel_rfl) (by kernel_rfl) (by kernel_rfl) (fun _ _ _ h => h) (Or.inl ⟨by rfl, ?hy14x21⟩) hSS ?rest14x21
  case hy14x21 =>
    intro W0 hSw
    obtain ⟨s0, s1, s2, s3, s4, s5⟩ := hSw
    go_simp
    first | done | with_reducible rfl
  try simp only [Act.put, List.setIfInBounds_toArray, List.set_cons_zero, List.set_cons_succ]
  refine wpAnyH_take (i := 15) (oi := ({ dst := Option.some 25, op := Go.Op.binOp Go.BinOp.rem 3 (Go.Operand.tmp 24) (Go.Operand.const (Go.Value.int Go.IntKind.i64 16)) 3, type := 3, pos := "coordinator.go:83", after := #[{ on := 14, ground := Go.Ground.data }, { on := 12, ground := Go.Ground.guard }], guard := Option.some (12, Bool.false) } : Oper)) (v := ?v15x22) rfl (by kernel_rfl) (by kernel_rfl) (by kernel_rfl) (fun _ _ _ h => h) (Or.inl ⟨by rfl, ?hy15x22⟩) hSS ?rest15x22
  case hy15x22 =>
    intro W0 hSw
    obtain ⟨s0, s1, s2, s3, s4, s5⟩ := hSw
    go_simp
    first | done | with_reducible rfl
  try simp only [Act.put, List.setIfInBounds_toArray, List.set_cons_zero, List.set_cons_succ]
  refine wpAnyH_take (i := 16) (oi := ({ dst := Option.some 26, op := Go.Op.move (Go.Operand.tmp 0), type := 28, pos := "coordinator.go:83", after := #[{ on := 12, ground := Go.Ground.guard }], guard := Option.some (12, Bool.false) } : Oper)) (v := ?v16x23) rfl (by kernel_rfl) (by kernel_rfl) (by kernel_rfl) (fun _ _ _ h => h) (Or.inl ⟨by rfl, ?hy16x23⟩) hSS ?rest16x23
  case hy16x23 =>
    intro W0 hSw
    obtain ⟨s0, s1, s2, s3, s4, s5⟩ := hSw
    go_simp
    first | done | with_reducible rfl
  try simp only [Act.put, List.setIfInBounds_toArray, List.set_cons_zero, List.set_cons_succ]
  refine wpAnyH_take (i := 17) (oi := ({ dst := Option.some 27, op := Go.Op.nilCheck (Go.Operand.tmp 26), type := 0, pos := "coordinator.go:83", after := #[{ on := 16, ground := Go.Ground.data }, { on := 12, ground := Go.Ground.guard }], guard := Option.some (12, Bool.false) } : Oper)) (v := ?v17x24) rfl (by kernel_rfl) (by kernel_rfl) (by kernel_rfl) (fun _ _ _ h => h) (Or.inl ⟨by rfl, ?hy17x24⟩) hSS ?rest17x24
  case hy17x24 =>
    intro W0 hSw
    obtain ⟨s0, s1, s2, s3, s4, s5⟩ := hSw
    go_simp
    first | done | with_reducible rfl
  try simp only [Act.put, List.setIfInBounds_toArray, List.set_cons_zero, List.set_cons_succ]
  refine wpAnyH_take (i := 18) (oi := ({ dst := Option.some 28, op := Go.Op.fieldAddr 63 (Go.Operand.tmp 27) 0, type := 0, pos := "coordinator.go:83", after := #[{ on := 17, ground := Go.Ground.data }, { on := 12, ground := Go.Ground.guard }], guard := Option.some (12, Bool.false) } : Oper)) (v := ?v18x25) rfl (by kernel_rfl) (by kernel_rfl) (by kernel_rfl) (fun _ _ _ h => h) (Or.inl ⟨by rfl, ?hy18x25⟩) hSS ?rest18x25
  case hy18x25 =>
    intro W0 hSw
    obtain ⟨s0, s1, s2, s3, s4, s5⟩ := hSw
    go_simp
    first | done | with_reducible rfl
  try simp only [Act.put, List.setIfInBounds_toArray, List.set_cons_zero, List.set_cons_succ]
  refine wpAnyH_take (i := 19) (oi := ({ dst := Option.some 29, op := Go.Op.load 3 (Go.Operand.tmp 28), type := 3, pos := "coordinator.go:83", after := #[{ on := 18, ground := Go.Ground.data }, { on := 12, ground := Go.Ground.guard }], guard := Option.some (12, Bool.false) } : Oper)) (v := ?v19x26) rfl (by kernel_rfl) (by kernel_rfl) (by kernel_rfl) (fun _ _ _ h => h) (Or.inl ⟨by rfl, ?hy19x26⟩) hSS ?rest19x26
  case hy19x26 =>
    intro W0 hSw
    obtain ⟨s0, s1, s2, s3, s4, s5⟩ := hSw
    go_simp
    first | done | with_reducible rfl
  try simp only [Act.put, List.setIfInBounds_toArray, List.set_cons_zero, List.set_cons_succ]
  refine wpAnyH_take (i := 20) (oi := ({ dst := Option.some 30, op := Go.Op.binOp Go.BinOp.neq 3 (Go.Operand.tmp 25) (Go.Operand.tmp 29) 3, type := 4, pos := "coordinator.go:83", after := #[{ on := 15, ground := Go.Ground.data }, { on := 19, ground := Go.Ground.data }, { on := 12, ground := Go.Ground.guard }], guard := Option.some (12, Bool.false) } : Oper)) (v := ?v20x27) rfl (by kernel_rfl) (by kernel_rfl) (by kernel_rfl) (fun _ _ _ h => h) (Or.inl ⟨by rfl, ?hy20x27⟩) hSS ?rest20x27
  case hy20x27 =>
    intro W0 hSw
    obtain ⟨s0, s1, s2, s3, s4, s5⟩ := hSw
    go_simp
    first | done | with_reducible rfl
  try simp only [Act.put, List.setIfInBounds_toArray, List.set_cons_zero, List.set_cons_succ]
  refine wpAnyH_take (i := 21) (oi := ({ dst := Option.some 31, op := Go.Op.pick (Go.Operand.tmp 22) (Go.Operand.const (Go.Value.bool Bool.true)) (Go.Operand.tmp 30), type := 4, pos := "coordinator.go:83", after := #[{ on := 12, ground := Go.Ground.data }, { on := 20, ground := Go.Ground.data }], guard := Option.none } : Oper)) (v := ?v21x28) rfl (by kernel_rfl) (by kernel_rfl) (by kernel_rfl) (fun _ _ _ h => h) (Or.inl ⟨by rfl, ?hy21x28⟩) hSS ?rest21x28
  case hy21x28 =>
    intro W0 hSw
    obtain ⟨s0, s1, s2, s3, s4, s5⟩ := hSw
    go_simp
    first | done | with_reducible rfl
  try simp only [Act.put, List.setIfInBounds_toArray, List.set_cons_zero, List.set_cons_succ]
  refine wpAnyH_take (i := 22) (oi := ({ dst := Option.some 9, op := Go.Op.assign (Go.Operand.tmp 31), type := 4, pos := "coordinator.go:83", after := #[{ on := 21, ground := Go.Ground.data }, { on := 12, ground := Go.Ground.chain }], guard := Option.none } : Oper)) (v := ?v22x29) rfl (by kernel_rfl) (by kernel_rfl) (by kernel_rfl) (fun _ _ _ h => h) (Or.inl ⟨by rfl, ?hy22x29⟩) hSS ?rest22x29
  case hy22x29 =>
    intro W0 hSw
    obtain ⟨s0, s1, s2, s3, s4, s5⟩ := hSw
    go_simp
    first | done | with_reducible rfl
  try simp only [Act.put, List.setIfInBounds_toArray, List.set_cons_zero, List.set_cons_succ]
  refine wpAnyH_done (by kernel_rfl) ?_ _
  go_upto_region 5 with fail
  have e2 : (k == 2) = true := by rw [HKK.out]; rfl
  have e3 : (k == 3) = false := by rw [HKK.out]; rfl
  have e4 : (k == 4) = false := by rw [HKK.out]; rfl
  have e7 : (k == 7) = false := by rw [HKK.out]; rfl
  have e8 : (k == 8) = false := by rw [HKK.out]; rfl
  have HS5 : Hid (∀ W, Below W0.heap.size W0 W → (fun W : World => W.cell? ⟨S.c, 5, none⟩ = some (.map (some S.m)) ∧ W.cell? ⟨gl, 3, none⟩ = some (.int .i64 X) ∧ (Instr.lookup 61 (.map (some S.m)) (.int .i64 X) false).run Try.prog W = .ok (.agg #[.int .i64 3, .int .i64 (a : Int), .int .i64 (o : Int), .int .i64 y, .int .i64 s]) W) W) := Lib.hid fun W hb => by
    obtain ⟨_, _, _, _, _, d5, _⟩ := box7_ (HCW.out W hb).box
    obtain ⟨_, _, _, l3, _⟩ := box5 (HL5.out W hb)
    exact ⟨d5, l3, HLK.out W hb⟩
  have hS5 := HS5.out _ (HB1.out.trans ((drew_below w1).mono HB1.out.size))
  clear c5
  refine wp_region_held_drew (S := (fun W : World => W.cell? ⟨S.c, 5, none⟩ = some (.map (some S.m)) ∧ W.cell? ⟨gl, 3, none⟩ = some (.int .i64 X) ∧ (Instr.lookup 61 (.map (some S.m)) (.int .i64 X) false).run Try.prog W = .ok (.agg #[.int .i64 3, .int .i64 (a : Int), .int .i64 (o : Int), .int .i64 y, .int .i64 s]) W)) (by kernel_rfl) hS5 (fun _ => ?_)
  refine wpAnyH_take (i := 0) (oi := ({ dst := Option.some 32, op := Go.Op.move (Go.Operand.tmp 0), type := 28, pos := "coordinator.go:86", after := #[], guard := Option.none } : Oper)) (v := ?v0x30) rfl (by kernel_rfl) (by kernel_rfl) (by kernel_rfl) (fun _ _ _ h => h) (Or.inl ⟨by rfl, ?hy0x30⟩) hS5 ?rest0x30
  case hy0x30 =>
    intro W0 hSw
    obtain ⟨s0, s1, s2⟩ := hSw
    go_simp
    first | done | with_reducible rfl
  try simp only [Act.put, List.setIfInBounds_toArray, List.set_cons_zero, List.set_cons_succ]
  refine wpAnyH_take (i := 1) (oi := ({ dst := Option.some 33, op := Go.Op.nilCheck (Go.Operand.tmp 32), type := 0, pos := "coordinator.go:86", after := #[{ on := 0, ground := Go.Ground.data }], guard := Option.none } : Oper)) (v := ?v1x31) rfl (by kernel_rfl) (by kernel_rfl) (by kernel_rfl) (fun _ _ _ h => h) (Or.inl ⟨by rfl, ?hy1x31⟩) hS5 ?rest1x31
  case hy1x31 =>
    intro W0 hSw
    obtain ⟨s0, s1, s2⟩ := hSw
    go_simp
    first | done | with_reducible rfl
  try simp only [Act.put, List.setIfInBounds_toArray, List.set_cons_zero, List.set_cons_succ]
  refine wpAnyH_take (i := 2) (oi := ({ dst := Option.some 34, op := Go.Op.fieldAddr 63 (Go.Operand.tmp 33) 5, type := 0, pos := "coordinator.go:86", after := #[{ on := 1, ground := Go.Ground.data }], guard := Option.none } : Oper)) (v := ?v2x32) rfl (by kernel_rfl) (by kernel_rfl) (by kernel_rfl) (fun _ _ _ h => h) (Or.inl ⟨by rfl, ?hy2x32⟩) hS5 ?rest2x32
  case hy2x32 =>
    intro W0 hSw
    obtain ⟨s0, s1, s2⟩ := hSw
    go_simp
    first | done | with_reducible rfl
  try simp only [Act.put, List.setIfInBounds_toArray, List.set_cons_zero, List.set_cons_succ]
  refine wpAnyH_take (i := 3) (oi := ({ dst := Option.some 35, op := Go.Op.load 61 (Go.Operand.tmp 34), type := 61, pos := "coordinator.go:86", after := #[{ on := 2, ground := Go.Ground.data }], guard := Option.none } : Oper)) (v := ?v3x33) rfl (by kernel_rfl) (by kernel_rfl) (by kernel_rfl) (fun _ _ _ h => h) (Or.inl ⟨by rfl, ?hy3x33⟩) hS5 ?rest3x33
  case hy3x33 =>
    intro W0 hSw
    obtain ⟨s0, s1, s2⟩ := hSw
    go_simp
    first | done | with_reducible rfl
  try simp only [Act.put, List.setIfInBounds_toArray, List.set_cons_zero, List.set_cons_succ]
  refine wpAnyH_take (i := 4) (oi := ({ dst := Option.some 36, op := Go.Op.fieldAddr 46 (Go.Operand.tmp 3) 3, type := 0, pos := "coordinator.go:86", after := #[], guard := Option.none } : Oper)) (v := ?v4x34) rfl (by kernel_rfl) (by kernel_rfl) (by kernel_rfl) (fun _ _ _ h => h) (Or.inl ⟨by rfl, ?hy4x34⟩) hS5 ?rest4x34
  case hy4x34 =>
    intro W0 hSw
    obtain ⟨s0, s1, s2⟩ := hSw
    go_simp
    first | done | with_reducible rfl
  try simp only [Act.put, List.setIfInBounds_toArray, List.set_cons_zero, List.set_cons_succ]
  refine wpAnyH_take (i := 5) (oi := ({ dst := Option.some 37, op := Go.Op.load 3 (Go.Operand.tmp 36), type := 3, pos := "coordinator.go:86", after := #[{ on := 4, ground := Go.Ground.data }], guard := Option.none } : Oper)) (v := ?v5x35) rfl (by kernel_rfl) (by kernel_rfl) (by kernel_rfl) (fun _ _ _ h => h) (Or.inl ⟨by rfl, ?hy5x35⟩) hS5 ?rest5x35
  case hy5x35 =>
    intro W0 hSw
    obtain ⟨s0, s1, s2⟩ := hSw
    go_simp
    first | done | with_reducible rfl
  try simp only [Act.put, List.setIfInBounds_toArray, List.set_cons_zero, List.set_cons_succ]
  refine wpAnyH_take (i := 6) (oi := ({ dst := Option.some 38, op := Go.Op.lookup 61 (Go.Operand.tmp 35) (Go.Operand.tmp 37) Bool.false, type := 67, pos := "coordinator.go:86", after := #[{ on := 3, ground := Go.Ground.data }, { on := 5, ground := Go.Ground.data }], guard := Option.none } : Oper)) (v := ?v6x36) rfl (by kernel_rfl) (by kernel_rfl) (by kernel_rfl) (fun _ _ _ h => h) (Or.inl ⟨by rfl, ?hy6x36⟩) hS5 ?rest6x36
  case hy6x36 =>
    intro W0 hSw
    obtain ⟨s0, s1, s2⟩ := hSw
    go_simp
    first | done | with_reducible rfl
  try simp only [Act.put, List.setIfInBounds_toArray, List.set_cons_zero, List.set_cons_succ]
  refine wpAnyH_ready (rs := [7]) (by kernel_rfl) (by simp) ?_
  refine AllReadyH.cons (o := ({ dst := Option.some 5, op := Go.Op.alloc 67, type := 0, pos := "coordinator.go:86", after := #[], guard := Option.none } : Oper)) rfl (fun K0 hK0 => ?_) AllReadyH.nil
  go_simp
  refine hK0.out _ _ (HS5.out _ ?hb7) (fun _ => ?_)
  case hb7 => first | exact HB1.out.trans (((alloc_below w1 _).trans ((drew_below _).mono (by simp))).mono HB1.out.size) | exact HB1.out.trans (((drew_below w1).trans (alloc_below w1.drew _)).mono HB1.out.size)
  clear hK0 K0
  try simp only [Act.put, List.setIfInBounds_toArray, List.set_cons_zero, List.set_cons_succ]
  refine wpAnyH_ready (rs := [8]) (by kernel_rfl) (by simp) ?_
  refine AllReadyH.cons (o := ({ dst := Option.none, op := Go.Op.store 67 (Go.Operand.tmp 5) (Go.Operand.tmp 38), type := 0, pos := "coordinator.go:86", after := #[{ on := 7, ground := Go.Ground.data }, { on := 6, ground := Go.Ground.data }, { on := 0, ground := Go.Ground.phase }, { on := 1, ground := Go.Ground.phase }, { on := 2, ground := Go.Ground.phase }, { on := 3, ground := Go.Ground.phase }, { on := 4, ground := Go.Ground.phase }, { on := 5, ground := Go.Ground.phase }, { on := 6, ground := Go.Ground.phase }, { on := 7, ground := Go.Ground.phase }], guard := Option.none } : Oper)) rfl (fun K0 hK0 => ?_) AllReadyH.nil
  go_simp
  refine hK0.out _ _ (HS5.out _ ?hb8) (fun _ => ?_)
  case hb8 => first | exact HB1.out.trans (((alloc_below w1 _).trans ((drew_below _).mono (by simp))).mono HB1.out.size) | exact HB1.out.trans (((drew_below w1).trans (alloc_below w1.drew _)).mono HB1.out.size)
  clear hK0 K0
  try simp only [Act.put, List.setIfInBounds_toArray, List.set_cons_zero, List.set_cons_succ]
  refine wpAnyH_done (by kernel_rfl) ?_ _
  obtain ⟨W5, hW5⟩ : ∃ W5, Hid (W5 = (w1.alloc (.cells #[.int .i64 3, .int .i64 (a : Int), .int .i64 (o : Int), .int .i64 y, .int .i64 s] 67)).drew) := ⟨_, Lib.hid rfl⟩
  rw [← hW5.out]
  have hb5 : Below W0.heap.size W0 W5 := by rw [hW5.out]; exact HB1.out.trans (((alloc_below w1 _).trans ((drew_below _).mono (by simp))).mono HB1.out.size)
  have ht5 : W5.heap[w1.heap.size]? = some (.cells #[.int .i64 3, .int .i64 (a : Int), .int .i64 (o : Int), .int .i64 y, .int .i64 s] 67 (0, 0)) := by rw [hW5.out]; exact heap_alloc_new w1 _
  obtain ⟨l0, l1, l2, l3, l4⟩ := box5 (HL5.out _ hb5)
  obtain ⟨z0, z1, z2, z3, z4⟩ := box5 ht5
  have hcw := HCW.out _ hb5
  have han := answer_cm hcw k (S.node : Int) (f := f) (x := x) HF16.out none 0 0 (a : Int) (o : Int) y s HOS.out
  rw [← HXX.out] at han
  have HAN := Lib.hid han
  have HB5 := Lib.hid hb5
  clear han
  clear hb5 ht5 hcw
  go_wp2_with (go_at_call 31; refine HAN.out.mono ?_; rintro e1 w6 ⟨rfl, hl⟩
               have HE := Lib.hid ((hl.pre HB5.out).pre HB0.out)
               clear hl)
  go_ret
  exact ⟨rfl, HE.out⟩
set_option maxRecDepth 100000 in
set_option maxHeartbeats 16000000 in
theorem hear_rly {w : World} {B : Nat} {S : CoS} (h : Co w B S) {f x : Nat} (hf16 : f < 16) (hx : x < 1099511627776) (hxn : x % 16 = S.node) {e : Te} (he : findT S.T x = some e) (hes : e.s = 2) (ho : e.o < 65536) (hy6 : e.y < 65536) (hy0 : e.y ≠ 0) (hof : e.o.testBit f = true) (hw0 : woB e.o f = 0) (hT : S.T.length < 1000) (hroom : S.b + (bytesOf S.rs).length + 905 ≤ 100000) (hos : S.os.length ≤ 50000) :
    Calls Try.prog 14 #[.pointer (some ⟨S.c, 0, none⟩), .agg #[.int .i64 4, .int .i64 (f : Int), .int .i64 (S.node : Int), .int .i64 (x : Int), .slice none 0 0]] w (fun e1 w' => e1 = .returned (.int .i64 0) ∧ CmT w B S x e.y w') := by
  have hxi : i64ok (x : Int) := by unfold i64ok; omega
  obtain ⟨k, hk⟩ : ∃ k : Int, k = 4 := ⟨_, rfl⟩
  have HRT := Lib.hid (fun W => rightL_any k (f : Int) (S.node : Int) (x : Int) [] none 0 0 rfl (by omega) W (RdI.nil _ _ _))
  rw [right_of (by omega) hf16 h.nod (by omega)] at HRT
  obtain ⟨X, hX⟩ : ∃ X : Int, X = (x : Int) := ⟨_, rfl⟩
  have hX16 : X % 16 = (S.node : Int) := by omega
  have hX17 : X.tmod 16 = (S.node : Int) := by rw [Int.tmod_eq_emod_of_nonneg (by omega)]; exact hX16
  have hX0 : 0 ≤ X := by omega
  have hnn : ((S.node : Int) != (S.node : Int)) = false := by simp
  obtain ⟨gl, hgl⟩ : ∃ gl, gl = w.heap.size := ⟨_, rfl⟩
  obtain ⟨L5, hL5⟩ : ∃ L5, L5 = Obj.cells #[.int .i64 k, .int .i64 (f : Int), .int .i64 (S.node : Int), .int .i64 X, .slice none 0 0] 46 := ⟨_, rfl⟩
  have hb0 := alloc_below w L5
  have hl5 := heap_alloc_new w L5
  obtain ⟨W0, hW0⟩ : ∃ W0, W0 = w.alloc L5 := ⟨_, rfl⟩
  rw [← hW0] at hb0 hl5
  rw [← hgl, hL5] at hl5
  have hc0 := h.below hb0
  have HB0 := Lib.hid hb0
  have HS3 : Hid (∀ W, Below W0.heap.size W0 W → (fun W : World => W.cell? ⟨gl, 0, none⟩ = some (.int .i64 k) ∧ W.cell? ⟨gl, 1, none⟩ = some (.int .i64 (f : Int)) ∧ W.cell? ⟨gl, 2, none⟩ = some (.int .i64 (S.node : Int)) ∧ W.cell? ⟨gl, 3, none⟩ = some (.int .i64 X) ∧ W.cell? ⟨gl, 4, none⟩ = some (.slice none 0 0) ∧ W.cell? ⟨S.c, 0, none⟩ = some (.int .i64 (S.node : Int))) W) := Lib.hid fun W hb => by
    obtain ⟨l0, l1, l2, l3, l4⟩ := box5 ((hb.block gl (lt_of_heap hl5)).trans hl5)
    obtain ⟨d0, _⟩ := box7_ (hc0.below hb).box
    exact ⟨l0, l1, l2, l3, l4, d0⟩
  obtain ⟨n, s0, a, o, y0, t0⟩ := e
  simp only at hes ho hy6 hy0 hof hw0 ⊢
  subst hes
  obtain ⟨y, hy⟩ : ∃ y : Int, y = (y0 : Int) := ⟨_, rfl⟩
  obtain ⟨s, hs⟩ : ∃ s : Int, s = (t0 : Int) := ⟨_, rfl⟩
  have HLK : Hid (∀ W, Below W0.heap.size W0 W → (Instr.lookup 61 (.map (some S.m)) (.int .i64 X) false).run Try.prog W = .ok (.agg #[.int .i64 2, .int .i64 (a : Int), .int .i64 (o : Int), .int .i64 y, .int .i64 s]) W) := Lib.hid fun W hb => by
    have h1 := (hc0.below hb).map.look hxi
    unfold stT at h1
    rw [hX]
    simp only [he, Te.v, teV] at h1
    rw [hy, hs]
    exact h1
  have HVN : Hid (∀ W, Below W0.heap.size W0 W → ∀ kk : Int, kk = 4 → Calls Try.prog 29 #[.pointer (some ⟨S.c, 0, none⟩), .agg #[.int .i64 kk, .int .i64 (f : Int), .int .i64 (S.node : Int), .int .i64 (x : Int), .slice none 0 0], .agg #[.int .i64 2, .int .i64 (a : Int), .int .i64 (o : Int), .int .i64 y, .int .i64 s]] W (fun e1 w1 => e1 = .returned (.int .i64 0) ∧ CmT W B S x y0 w1)) := Lib.hid fun W hb kk hkk => by
    rw [hkk]
    rw [hy, hs]
    exact vote_rlast (hc0.below hb) (S.node : Int) hf16 hxi ho y0 t0 hy6 hy0 hof hw0 hT hos hroom
  clear he hy hs ho hy6 hy0 hof hw0 hT hroom
  rw [← hX] at HRT
  rw [← hX, ← hk]
  have HC := Lib.hid (closed_any hc0)
  rw [hW0, hL5] at HC
  have HW0 := Lib.hid hW0
  rw [hL5] at HW0
  have HGL := Lib.hid hgl
  have HXX := Lib.hid hX
  have HCW : Hid (∀ W, Below W0.heap.size W0 W → Co W B S) := Lib.hid fun W hb => hc0.below hb
  have HL5 : Hid (∀ W, Below W0.heap.size W0 W → W.heap[gl]? = some (.cells #[.int .i64 k, .int .i64 (f : Int), .int .i64 (S.node : Int), .int .i64 X, .slice none 0 0] 46 (0, 0))) := Lib.hid fun W hb => (hb.block gl (lt_of_heap hl5)).trans hl5
  obtain ⟨_, _, _, _, _, c5, _⟩ := box7_ hc0.box
  have HKK := Lib.hid hk
  clear h hk hf16 hx hxn hos hxi hX hb0 hl5 hc0 hW0 hL5 hgl hX16
  go_enter Try.func14, Try.ntmps14
  go_upto_region 3 with (go_at_call 24; refine HC.out.mono ?_; rintro e1 w1 ⟨rfl, rfl⟩)
  rw [← HW0.out]
  have hSS := HS3.out _ (drew_below W0)
  rw [← HGL.out]
  refine wp_region_held_drew (S := (fun W : World => W.cell? ⟨gl, 0, none⟩ = some (.int .i64 k) ∧ W.cell? ⟨gl, 1, none⟩ = some (.int .i64 (f : Int)) ∧ W.cell? ⟨gl, 2, none⟩ = some (.int .i64 (S.node : Int)) ∧ W.cell? ⟨gl, 3, none⟩ = some (.int .i64 X) ∧ W.cell? ⟨gl, 4, none⟩ = some (.slice none 0 0) ∧ W.cell? ⟨S.c, 0, none⟩ = some (.int .i64 (S.node : Int)))) (by kernel_rfl) hSS (fun _ => ?_)
  refine wpAnyH_take (i := 0) (oi := ({ dst := Option.some 10, op := Go.Op.load 46 (Go.Operand.tmp 3), type := 46, pos := "coordinator.go:83", after := #[], guard := Option.none } : Oper)) (v := ?v0x8) rfl (by kernel_rfl) (by kernel_rfl) (by kernel_rfl) (fun _ _ _ h => h) (Or.inl ⟨by rfl, ?hy0x8⟩) hSS ?rest0x8
  case hy0x8 =>
    intro W0 hSw
    obtain ⟨s0, s1, s2, s3, s4, s5⟩ := hSw
    go_simp
    first | done | with_reducible rfl
  try simp only [Act.put, List.setIfInBounds_toArray, List.set_cons_zero, List.set_cons_succ]
  refine wpAnyH_ready (rs := [1]) (by kernel_rfl) (by simp) ?_
  refine AllReadyH.cons (o := ({ dst := Option.some 11, op := Go.Op.call { callee := Go.Callee.value (Go.Operand.func 25), args := #[Go.Operand.tmp 10], argTypes := #[46] }, type := 4, pos := "coordinator.go:83", after := #[{ on := 0, ground := Go.Ground.data }], guard := Option.none } : Oper)) rfl (fun K0 hK0 => ?_) AllReadyH.nil
  go_simp
  go_at_call 25
  refine (HRT.out _).mono ?_
  rintro e1 w1 ⟨rfl, hb1⟩
  have HB1 := Lib.hid ((drew_below W0).trans (Below.mono hb1 (Nat.le_refl _)))
  have hSS := HS3.out _ HB1.out
  clear hb1
  try go_wp2_with fail
  refine hK0.out _ _ hSS (fun _ => ?_)
  clear hK0 K0
  try simp only [Act.put, List.setIfInBounds_toArray, List.set_cons_zero, List.set_cons_succ]
  refine wpAnyH_take (i := 2) (oi := ({ dst := Option.some 12, op := Go.Op.unOp Go.UnOp.not 4 (Go.Operand.tmp 11), type := 4, pos := "coordinator.go:83", after := #[{ on := 1, ground := Go.Ground.data }], guard := Option.none } : Oper)) (v := ?v2x9) rfl (by kernel_rfl) (by kernel_rfl) (by kernel_rfl) (fun _ _ _ h => h) (Or.inl ⟨by rfl, ?hy2x9⟩) hSS ?rest2x9
  case hy2x9 =>
    intro W0 hSw
    obtain ⟨s0, s1, s2, s3, s4, s5⟩ := hSw
    go_simp
    first | done | with_reducible rfl
  try simp only [Act.put, List.setIfInBounds_toArray, List.set_cons_zero, List.set_cons_succ]
  refine wpAnyH_take (i := 3) (oi := ({ dst := Option.some 13, op := Go.Op.move (Go.Operand.tmp 12), type := 4, pos := "coordinator.go:83", after := #[{ on := 2, ground := Go.Ground.data }, { on := 1, ground := Go.Ground.chain }], guard := Option.none } : Oper)) (v := ?v3x10) rfl (by kernel_rfl) (by kernel_rfl) (by kernel_rfl) (fun _ _ _ h => h) (Or.inl ⟨by rfl, ?hy3x10⟩) hSS ?rest3x10
  case hy3x10 =>
    intro W0 hSw
    obtain ⟨s0, s1, s2, s3, s4, s5⟩ := hSw
    go_simp
    first | done | with_reducible rfl
  try simp only [Act.put, List.setIfInBounds_toArray, List.set_cons_zero, List.set_cons_succ]
  refine wpAnyH_take (i := 4) (oi := ({ dst := Option.some 14, op := Go.Op.fieldAddr 46 (Go.Operand.tmp 3) 2, type := 0, pos := "coordinator.go:83", after := #[{ on := 3, ground := Go.Ground.guard }], guard := Option.some (3, Bool.false) } : Oper)) (v := ?v4x11) rfl (by kernel_rfl) (by kernel_rfl) (by kernel_rfl) (fun _ _ _ h => h) (Or.inl ⟨by rfl, ?hy4x11⟩) hSS ?rest4x11
  case hy4x11 =>
    intro W0 hSw
    obtain ⟨s0, s1, s2, s3, s4, s5⟩ := hSw
    go_simp
    first | done | with_reducible rfl
  try simp only [Act.put, List.setIfInBounds_toArray, List.set_cons_zero, List.set_cons_succ]
  refine wpAnyH_take (i := 5) (oi := ({ dst := Option.some 15, op := Go.Op.load 3 (Go.Operand.tmp 14), type := 3, pos := "coordinator.go:83", after := #[{ on := 4, ground := Go.Ground.data }, { on := 3, ground := Go.Ground.guard }], guard := Option.some (3, Bool.false) } : Oper)) (v := ?v5x12) rfl (by kernel_rfl) (by kernel_rfl) (by kernel_rfl) (fun _ _ _ h => h) (Or.inl ⟨by rfl, ?hy5x12⟩) hSS ?rest5x12
  case hy5x12 =>
    intro W0 hSw
    obtain ⟨s0, s1, s2, s3, s4, s5⟩ := hSw
    go_simp
    first | done | with_reducible rfl
  try simp only [Act.put, List.setIfInBounds_toArray, List.set_cons_zero, List.set_cons_succ]
  refine wpAnyH_take (i := 6) (oi := ({ dst := Option.some 16, op := Go.Op.move (Go.Operand.tmp 0), type := 28, pos := "coordinator.go:83", after := #[{ on := 3, ground := Go.Ground.guard }], guard := Option.some (3, Bool.false) } : Oper)) (v := ?v6x13) rfl (by kernel_rfl) (by kernel_rfl) (by kernel_rfl) (fun _ _ _ h => h) (Or.inl ⟨by rfl, ?hy6x13⟩) hSS ?rest6x13
  case hy6x13 =>
    intro W0 hSw
    obtain ⟨s0, s1, s2, s3, s4, s5⟩ := hSw
    go_simp
    first | done | with_reducible rfl
  try simp only [Act.put, List.setIfInBounds_toArray, List.set_cons_zero, List.set_cons_succ]
  refine wpAnyH_take (i := 7) (oi := ({ dst := Option.some 17, op := Go.Op.nilCheck (Go.Operand.tmp 16), type := 0, pos := "coordinator.go:83", after := #[{ on := 6, ground := Go.Ground.data }, { on := 3, ground := Go.Ground.guard }], guard := Option.some (3, Bool.false) } : Oper)) (v := ?v7x14) rfl (by kernel_rfl) (by kernel_rfl) (by kernel_rfl) (fun _ _ _ h => h) (Or.inl ⟨by rfl, ?hy7x14⟩) hSS ?rest7x14
  case hy7x14 =>
    intro W0 hSw
    obtain ⟨s0, s1, s2, s3, s4, s5⟩ := hSw
    go_simp
    first | done | with_reducible rfl
  try simp only [Act.put, List.setIfInBounds_toArray, List.set_cons_zero, List.set_cons_succ]
  refine wpAnyH_take (i := 8) (oi := ({ dst := Option.some 18, op := Go.Op.fieldAddr 63 (Go.Operand.tmp 17) 0, type := 0, pos := "coordinator.go:83", after := #[{ on := 7, ground := Go.Ground.data }, { on := 3, ground := Go.Ground.guard }], guard := Option.some (3, Bool.false) } : Oper)) (v := ?v8x15) rfl (by kernel_rfl) (by kernel_rfl) (by kernel_rfl) (fun _ _ _ h => h) (Or.inl ⟨by rfl, ?hy8x15⟩) hSS ?rest8x15
  case hy8x15 =>
    intro W0 hSw
    obtain ⟨s0, s1, s2, s3, s4, s5⟩ := hSw
    go_simp
    first | done | with_reducible rfl
  try simp only [Act.put, List.setIfInBounds_toArray, List.set_cons_zero, List.set_cons_succ]
  refine wpAnyH_take (i := 9) (oi := ({ dst := Option.some 19, op := Go.Op.load 3 (Go.Operand.tmp 18), type := 3, pos := "coordinator.go:83", after := #[{ on := 8, ground := Go.Ground.data }, { on := 3, ground := Go.Ground.guard }], guard := Option.some (3, Bool.false) } : Oper)) (v := ?v9x16) rfl (by kernel_rfl) (by kernel_rfl) (by kernel_rfl) (fun _ _ _ h => h) (Or.inl ⟨by rfl, ?hy9x16⟩) hSS ?rest9x16
  case hy9x16 =>
    intro W0 hSw
    obtain ⟨s0, s1, s2, s3, s4, s5⟩ := hSw
    go_simp
    first | done | with_reducible rfl
  try simp only [Act.put, List.setIfInBounds_toArray, List.set_cons_zero, List.set_cons_succ]
  refine wpAnyH_take (i := 10) (oi := ({ dst := Option.some 20, op := Go.Op.binOp Go.BinOp.neq 3 (Go.Operand.tmp 15) (Go.Operand.tmp 19) 3, type := 4, pos := "coordinator.go:83", after := #[{ on := 5, ground := Go.Ground.data }, { on := 9, ground := Go.Ground.data }, { on := 3, ground := Go.Ground.guard }], guard := Option.some (3, Bool.false) } : Oper)) (v := ?v10x17) rfl (by kernel_rfl) (by kernel_rfl) (by kernel_rfl) (fun _ _ _ h => h) (Or.inl ⟨by rfl, ?hy10x17⟩) hSS ?rest10x17
  case hy10x17 =>
    intro W0 hSw
    obtain ⟨s0, s1, s2, s3, s4, s5⟩ := hSw
    go_simp
    first | done | with_reducible rfl
  try simp only [Act.put, List.setIfInBounds_toArray, List.set_cons_zero, List.set_cons_succ]
  refine wpAnyH_take (i := 11) (oi := ({ dst := Option.some 21, op := Go.Op.pick (Go.Operand.tmp 13) (Go.Operand.const (Go.Value.bool Bool.true)) (Go.Operand.tmp 20), type := 4, pos := "coordinator.go:83", after := #[{ on := 3, ground := Go.Ground.data }, { on := 10, ground := Go.Ground.data }], guard := Option.none } : Oper)) (v := ?v11x18) rfl (by kernel_rfl) (by kernel_rfl) (by kernel_rfl) (fun _ _ _ h => h) (Or.inl ⟨by rfl, ?hy11x18⟩) hSS ?rest11x18
  case hy11x18 =>
    intro W0 hSw
    obtain ⟨s0, s1, s2, s3, s4, s5⟩ := hSw
    go_simp
    first | done | with_reducible rfl
  try simp only [Act.put, List.setIfInBounds_toArray, List.set_cons_zero, List.set_cons_succ]
  refine wpAnyH_take (i := 12) (oi := ({ dst := Option.some 22, op := Go.Op.move (Go.Operand.tmp 21), type := 4, pos := "coordinator.go:83", after := #[{ on := 11, ground := Go.Ground.data }, { on := 3, ground := Go.Ground.chain }], guard := Option.none } : Oper)) (v := ?v12x19) rfl (by kernel_rfl) (by kernel_rfl) (by kernel_rfl) (fun _ _ _ h => h) (Or.inl ⟨by rfl, ?hy12x19⟩) hSS ?rest12x19
  case hy12x19 =>
    intro W0 hSw
    obtain ⟨s0, s1, s2, s3, s4, s5⟩ := hSw
    go_simp
    first | done | with_reducible rfl
  try simp only [Act.put, List.setIfInBounds_toArray, List.set_cons_zero, List.set_cons_succ]
  refine wpAnyH_take (i := 13) (oi := ({ dst := Option.some 23, op := Go.Op.fieldAddr 46 (Go.Operand.tmp 3) 3, type := 0, pos := "coordinator.go:83", after := #[{ on := 12, ground := Go.Ground.guard }], guard := Option.some (12, Bool.false) } : Oper)) (v := ?v13x20) rfl (by kernel_rfl) (by kernel_rfl) (by kernel_rfl) (fun _ _ _ h => h) (Or.inl ⟨by rfl, ?hy13x20⟩) hSS ?rest13x20
  case hy13x20 =>
    intro W0 hSw
    obtain ⟨s0, s1, s2, s3, s4, s5⟩ := hSw
    go_simp
    first | done | with_reducible rfl
  try simp only [Act.put, List.setIfInBounds_toArray, List.set_cons_zero, List.set_cons_succ]
  refine wpAnyH_take (i := 14) (oi := ({ dst := Option.some 24, op := Go.Op.load 3 (Go.Operand.tmp 23), type := 3, pos := "coordinator.go:83", after := #[{ on := 13, ground := Go.Ground.data }, { on := 12, ground := Go.Ground.guard }], guard := Option.some (12, Bool.false) } : Oper)) (v := ?v14x21) rfl (by kernel_rfl) (by kernel_rfl) (by kernel_rfl) (fun _ _ _ h => h) (Or.inl ⟨by rfl, ?hy14x21⟩) hSS ?rest14x21
  case hy14x21 =>
    intro W0 hSw
    obtain ⟨s0, s1, s2, s3, s4, s5⟩ := hSw
    go_simp
    first | done | with_reducible rfl
  try simp only [Act.put, List.setIfInBounds_toArray, List.set_cons_zero, List.set_cons_succ]
  refine wpAnyH_take (i := 15) (oi := ({ dst := Option.some 25, op := Go.Op.binOp Go.BinOp.rem 3 (Go.Operand.tmp 24) (Go.Operand.const (Go.Value.int Go.IntKind.i64 16)) 3, type := 3, pos := "coordinator.go:83", after := #[{ on := 14, ground := Go.Ground.data }, { on := 12, ground := Go.Ground.guard }], guard := Option.some (12, Bool.false) } : Oper)) (v := ?v15x22) rfl (by kernel_rfl) (by kernel_rfl) (by kernel_rfl) (fun _ _ _ h => h) (Or.inl ⟨by rfl, ?hy15x22⟩) hSS ?rest15x22
  case hy15x22 =>
    intro W0 hSw
    obtain ⟨s0, s1, s2, s3, s4, s5⟩ := hSw
    go_simp
    first | done | with_reducible rfl
  try simp only [Act.put, List.setIfInBounds_toArray, List.set_cons_zero, List.set_cons_succ]
  refine wpAnyH_take (i := 16) (oi := ({ dst := Option.some 26, op := Go.Op.move (Go.Operand.tmp 0), type := 28, pos := "coordinator.go:83", after := #[{ on := 12, ground := Go.Ground.guard }], guard := Option.some (12, Bool.false) } : Oper)) (v := ?v16x23) rfl (by kernel_rfl) (by kernel_rfl) (by kernel_rfl) (fun _ _ _ h => h) (Or.inl ⟨by rfl, ?hy16x23⟩) hSS ?rest16x23
  case hy16x23 =>
    intro W0 hSw
    obtain ⟨s0, s1, s2, s3, s4, s5⟩ := hSw
    go_simp
    first | done | with_reducible rfl
  try simp only [Act.put, List.setIfInBounds_toArray, List.set_cons_zero, List.set_cons_succ]
  refine wpAnyH_take (i := 17) (oi := ({ dst := Option.some 27, op := Go.Op.nilCheck (Go.Operand.tmp 26), type := 0, pos := "coordinator.go:83", after := #[{ on := 16, ground := Go.Ground.data }, { on := 12, ground := Go.Ground.guard }], guard := Option.some (12, Bool.false) } : Oper)) (v := ?v17x24) rfl (by kernel_rfl) (by kernel_rfl) (by kernel_rfl) (fun _ _ _ h => h) (Or.inl ⟨by rfl, ?hy17x24⟩) hSS ?rest17x24
  case hy17x24 =>
    intro W0 hSw
    obtain ⟨s0, s1, s2, s3, s4, s5⟩ := hSw
    go_simp
    first | done | with_reducible rfl
  try simp only [Act.put, List.setIfInBounds_toArray, List.set_cons_zero, List.set_cons_succ]
  refine wpAnyH_take (i := 18) (oi := ({ dst := Option.some 28, op := Go.Op.fieldAddr 63 (Go.Operand.tmp 27) 0, type := 0, pos := "coordinator.go:83", after := #[{ on := 17, ground := Go.Ground.data }, { on := 12, ground := Go.Ground.guard }], guard := Option.some (12, Bool.false) } : Oper)) (v := ?v18x25) rfl (by kernel_rfl) (by kernel_rfl) (by kernel_rfl) (fun _ _ _ h => h) (Or.inl ⟨by rfl, ?hy18x25⟩) hSS ?rest18x25
  case hy18x25 =>
    intro W0 hSw
    obtain ⟨s0, s1, s2, s3, s4, s5⟩ := hSw
    go_simp
    first | done | with_reducible rfl
  try simp only [Act.put, List.setIfInBounds_toArray, List.set_cons_zero, List.set_cons_succ]
  refine wpAnyH_take (i := 19) (oi := ({ dst := Option.some 29, op := Go.Op.load 3 (Go.Operand.tmp 28), type := 3, pos := "coordinator.go:83", after := #[{ on := 18, ground := Go.Ground.data }, { on := 12, ground := Go.Ground.guard }], guard := Option.some (12, Bool.false) } : Oper)) (v := ?v19x26) rfl (by kernel_rfl) (by kernel_rfl) (by kernel_rfl) (fun _ _ _ h => h) (Or.inl ⟨by rfl, ?hy19x26⟩) hSS ?rest19x26
  case hy19x26 =>
    intro W0 hSw
    obtain ⟨s0, s1, s2, s3, s4, s5⟩ := hSw
    go_simp
    first | done | with_reducible rfl
  try simp only [Act.put, List.setIfInBounds_toArray, List.set_cons_zero, List.set_cons_succ]
  refine wpAnyH_take (i := 20) (oi := ({ dst := Option.some 30, op := Go.Op.binOp Go.BinOp.neq 3 (Go.Operand.tmp 25) (Go.Operand.tmp 29) 3, type := 4, pos := "coordinator.go:83", after := #[{ on := 15, ground := Go.Ground.data }, { on := 19, ground := Go.Ground.data }, { on := 12, ground := Go.Ground.guard }], guard := Option.some (12, Bool.false) } : Oper)) (v := ?v20x27) rfl (by kernel_rfl) (by kernel_rfl) (by kernel_rfl) (fun _ _ _ h => h) (Or.inl ⟨by rfl, ?hy20x27⟩) hSS ?rest20x27
  case hy20x27 =>
    intro W0 hSw
    obtain ⟨s0, s1, s2, s3, s4, s5⟩ := hSw
    go_simp
    first | done | with_reducible rfl
  try simp only [Act.put, List.setIfInBounds_toArray, List.set_cons_zero, List.set_cons_succ]
  refine wpAnyH_take (i := 21) (oi := ({ dst := Option.some 31, op := Go.Op.pick (Go.Operand.tmp 22) (Go.Operand.const (Go.Value.bool Bool.true)) (Go.Operand.tmp 30), type := 4, pos := "coordinator.go:83", after := #[{ on := 12, ground := Go.Ground.data }, { on := 20, ground := Go.Ground.data }], guard := Option.none } : Oper)) (v := ?v21x28) rfl (by kernel_rfl) (by kernel_rfl) (by kernel_rfl) (fun _ _ _ h => h) (Or.inl ⟨by rfl, ?hy21x28⟩) hSS ?rest21x28
  case hy21x28 =>
    intro W0 hSw
    obtain ⟨s0, s1, s2, s3, s4, s5⟩ := hSw
    go_simp
    first | done | with_reducible rfl
  try simp only [Act.put, List.setIfInBounds_toArray, List.set_cons_zero, List.set_cons_succ]
  refine wpAnyH_take (i := 22) (oi := ({ dst := Option.some 9, op := Go.Op.assign (Go.Operand.tmp 31), type := 4, pos := "coordinator.go:83", after := #[{ on := 21, ground := Go.Ground.data }, { on := 12, ground := Go.Ground.chain }], guard := Option.none } : Oper)) (v := ?v22x29) rfl (by kernel_rfl) (by kernel_rfl) (by kernel_rfl) (fun _ _ _ h => h) (Or.inl ⟨by rfl, ?hy22x29⟩) hSS ?rest22x29
  case hy22x29 =>
    intro W0 hSw
    obtain ⟨s0, s1, s2, s3, s4, s5⟩ := hSw
    go_simp
    first | done | with_reducible rfl
  try simp only [Act.put, List.setIfInBounds_toArray, List.set_cons_zero, List.set_cons_succ]
  refine wpAnyH_done (by kernel_rfl) ?_ _
  go_upto_region 5 with fail
  have e2 : (k == 2) = false := by rw [HKK.out]; rfl
  have e3 : (k == 3) = false := by rw [HKK.out]; rfl
  have e4 : (k == 4) = true := by rw [HKK.out]; rfl
  have e7 : (k == 7) = false := by rw [HKK.out]; rfl
  have e8 : (k == 8) = false := by rw [HKK.out]; rfl
  have HS5 : Hid (∀ W, Below W0.heap.size W0 W → (fun W : World => W.cell? ⟨S.c, 5, none⟩ = some (.map (some S.m)) ∧ W.cell? ⟨gl, 3, none⟩ = some (.int .i64 X) ∧ (Instr.lookup 61 (.map (some S.m)) (.int .i64 X) false).run Try.prog W = .ok (.agg #[.int .i64 2, .int .i64 (a : Int), .int .i64 (o : Int), .int .i64 y, .int .i64 s]) W) W) := Lib.hid fun W hb => by
    obtain ⟨_, _, _, _, _, d5, _⟩ := box7_ (HCW.out W hb).box
    obtain ⟨_, _, _, l3, _⟩ := box5 (HL5.out W hb)
    exact ⟨d5, l3, HLK.out W hb⟩
  have hS5 := HS5.out _ (HB1.out.trans ((drew_below w1).mono HB1.out.size))
  clear c5
  refine wp_region_held_drew (S := (fun W : World => W.cell? ⟨S.c, 5, none⟩ = some (.map (some S.m)) ∧ W.cell? ⟨gl, 3, none⟩ = some (.int .i64 X) ∧ (Instr.lookup 61 (.map (some S.m)) (.int .i64 X) false).run Try.prog W = .ok (.agg #[.int .i64 2, .int .i64 (a : Int), .int .i64 (o : Int), .int .i64 y, .int .i64 s]) W)) (by kernel_rfl) hS5 (fun _ => ?_)
  refine wpAnyH_take (i := 0) (oi := ({ dst := Option.some 32, op := Go.Op.move (Go.Operand.tmp 0), type := 28, pos := "coordinator.go:86", after := #[], guard := Option.none } : Oper)) (v := ?v0x30) rfl (by kernel_rfl) (by kernel_rfl) (by kernel_rfl) (fun _ _ _ h => h) (Or.inl ⟨by rfl, ?hy0x30⟩) hS5 ?rest0x30
  case hy0x30 =>
    intro W0 hSw
    obtain ⟨s0, s1, s2⟩ := hSw
    go_simp
    first | done | with_reducible rfl
  try simp only [Act.put, List.setIfInBounds_toArray, List.set_cons_zero, List.set_cons_succ]
  refine wpAnyH_take (i := 1) (oi := ({ dst := Option.some 33, op := Go.Op.nilCheck (Go.Operand.tmp 32), type := 0, pos := "coordinator.go:86", after := #[{ on := 0, ground := Go.Ground.data }], guard := Option.none } : Oper)) (v := ?v1x31) rfl (by kernel_rfl) (by kernel_rfl) (by kernel_rfl) (fun _ _ _ h => h) (Or.inl ⟨by rfl, ?hy1x31⟩) hS5 ?rest1x31
  case hy1x31 =>
    intro W0 hSw
    obtain ⟨s0, s1, s2⟩ := hSw
    go_simp
    first | done | with_reducible rfl
  try simp only [Act.put, List.setIfInBounds_toArray, List.set_cons_zero, List.set_cons_succ]
  refine wpAnyH_take (i := 2) (oi := ({ dst := Option.some 34, op := Go.Op.fieldAddr 63 (Go.Operand.tmp 33) 5, type := 0, pos := "coordinator.go:86", after := #[{ on := 1, ground := Go.Ground.data }], guard := Option.none } : Oper)) (v := ?v2x32) rfl (by kernel_rfl) (by kernel_rfl) (by kernel_rfl) (fun _ _ _ h => h) (Or.inl ⟨by rfl, ?hy2x32⟩) hS5 ?rest2x32
  case hy2x32 =>
    intro W0 hSw
    obtain ⟨s0, s1, s2⟩ := hSw
    go_simp
    first | done | with_reducible rfl
  try simp only [Act.put, List.setIfInBounds_toArray, List.set_cons_zero, List.set_cons_succ]
  refine wpAnyH_take (i := 3) (oi := ({ dst := Option.some 35, op := Go.Op.load 61 (Go.Operand.tmp 34), type := 61, pos := "coordinator.go:86", after := #[{ on := 2, ground := Go.Ground.data }], guard := Option.none } : Oper)) (v := ?v3x33) rfl (by kernel_rfl) (by kernel_rfl) (by kernel_rfl) (fun _ _ _ h => h) (Or.inl ⟨by rfl, ?hy3x33⟩) hS5 ?rest3x33
  case hy3x33 =>
    intro W0 hSw
    obtain ⟨s0, s1, s2⟩ := hSw
    go_simp
    first | done | with_reducible rfl
  try simp only [Act.put, List.setIfInBounds_toArray, List.set_cons_zero, List.set_cons_succ]
  refine wpAnyH_take (i := 4) (oi := ({ dst := Option.some 36, op := Go.Op.fieldAddr 46 (Go.Operand.tmp 3) 3, type := 0, pos := "coordinator.go:86", after := #[], guard := Option.none } : Oper)) (v := ?v4x34) rfl (by kernel_rfl) (by kernel_rfl) (by kernel_rfl) (fun _ _ _ h => h) (Or.inl ⟨by rfl, ?hy4x34⟩) hS5 ?rest4x34
  case hy4x34 =>
    intro W0 hSw
    obtain ⟨s0, s1, s2⟩ := hSw
    go_simp
    first | done | with_reducible rfl
  try simp only [Act.put, List.setIfInBounds_toArray, List.set_cons_zero, List.set_cons_succ]
  refine wpAnyH_take (i := 5) (oi := ({ dst := Option.some 37, op := Go.Op.load 3 (Go.Operand.tmp 36), type := 3, pos := "coordinator.go:86", after := #[{ on := 4, ground := Go.Ground.data }], guard := Option.none } : Oper)) (v := ?v5x35) rfl (by kernel_rfl) (by kernel_rfl) (by kernel_rfl) (fun _ _ _ h => h) (Or.inl ⟨by rfl, ?hy5x35⟩) hS5 ?rest5x35
  case hy5x35 =>
    intro W0 hSw
    obtain ⟨s0, s1, s2⟩ := hSw
    go_simp
    first | done | with_reducible rfl
  try simp only [Act.put, List.setIfInBounds_toArray, List.set_cons_zero, List.set_cons_succ]
  refine wpAnyH_take (i := 6) (oi := ({ dst := Option.some 38, op := Go.Op.lookup 61 (Go.Operand.tmp 35) (Go.Operand.tmp 37) Bool.false, type := 67, pos := "coordinator.go:86", after := #[{ on := 3, ground := Go.Ground.data }, { on := 5, ground := Go.Ground.data }], guard := Option.none } : Oper)) (v := ?v6x36) rfl (by kernel_rfl) (by kernel_rfl) (by kernel_rfl) (fun _ _ _ h => h) (Or.inl ⟨by rfl, ?hy6x36⟩) hS5 ?rest6x36
  case hy6x36 =>
    intro W0 hSw
    obtain ⟨s0, s1, s2⟩ := hSw
    go_simp
    first | done | with_reducible rfl
  try simp only [Act.put, List.setIfInBounds_toArray, List.set_cons_zero, List.set_cons_succ]
  refine wpAnyH_ready (rs := [7]) (by kernel_rfl) (by simp) ?_
  refine AllReadyH.cons (o := ({ dst := Option.some 5, op := Go.Op.alloc 67, type := 0, pos := "coordinator.go:86", after := #[], guard := Option.none } : Oper)) rfl (fun K0 hK0 => ?_) AllReadyH.nil
  go_simp
  refine hK0.out _ _ (HS5.out _ ?hb7) (fun _ => ?_)
  case hb7 => first | exact HB1.out.trans (((alloc_below w1 _).trans ((drew_below _).mono (by simp))).mono HB1.out.size) | exact HB1.out.trans (((drew_below w1).trans (alloc_below w1.drew _)).mono HB1.out.size)
  clear hK0 K0
  try simp only [Act.put, List.setIfInBounds_toArray, List.set_cons_zero, List.set_cons_succ]
  refine wpAnyH_ready (rs := [8]) (by kernel_rfl) (by simp) ?_
  refine AllReadyH.cons (o := ({ dst := Option.none, op := Go.Op.store 67 (Go.Operand.tmp 5) (Go.Operand.tmp 38), type := 0, pos := "coordinator.go:86", after := #[{ on := 7, ground := Go.Ground.data }, { on := 6, ground := Go.Ground.data }, { on := 0, ground := Go.Ground.phase }, { on := 1, ground := Go.Ground.phase }, { on := 2, ground := Go.Ground.phase }, { on := 3, ground := Go.Ground.phase }, { on := 4, ground := Go.Ground.phase }, { on := 5, ground := Go.Ground.phase }, { on := 6, ground := Go.Ground.phase }, { on := 7, ground := Go.Ground.phase }], guard := Option.none } : Oper)) rfl (fun K0 hK0 => ?_) AllReadyH.nil
  go_simp
  refine hK0.out _ _ (HS5.out _ ?hb8) (fun _ => ?_)
  case hb8 => first | exact HB1.out.trans (((alloc_below w1 _).trans ((drew_below _).mono (by simp))).mono HB1.out.size) | exact HB1.out.trans (((drew_below w1).trans (alloc_below w1.drew _)).mono HB1.out.size)
  clear hK0 K0
  try simp only [Act.put, List.setIfInBounds_toArray, List.set_cons_zero, List.set_cons_succ]
  refine wpAnyH_done (by kernel_rfl) ?_ _
  obtain ⟨W5, hW5⟩ : ∃ W5, Hid (W5 = (w1.alloc (.cells #[.int .i64 2, .int .i64 (a : Int), .int .i64 (o : Int), .int .i64 y, .int .i64 s] 67)).drew) := ⟨_, Lib.hid rfl⟩
  rw [← hW5.out]
  have hb5 : Below W0.heap.size W0 W5 := by rw [hW5.out]; exact HB1.out.trans (((alloc_below w1 _).trans ((drew_below _).mono (by simp))).mono HB1.out.size)
  have ht5 : W5.heap[w1.heap.size]? = some (.cells #[.int .i64 2, .int .i64 (a : Int), .int .i64 (o : Int), .int .i64 y, .int .i64 s] 67 (0, 0)) := by rw [hW5.out]; exact heap_alloc_new w1 _
  obtain ⟨l0, l1, l2, l3, l4⟩ := box5 (HL5.out _ hb5)
  obtain ⟨z0, z1, z2, z3, z4⟩ := box5 ht5
  have hcw := HCW.out _ hb5
  have hvn := HVN.out _ hb5 k HKK.out
  rw [← HXX.out] at hvn
  have HVN2 := Lib.hid hvn
  have HB5 := Lib.hid hb5
  clear hvn
  clear hb5 ht5 hcw
  go_wp2_with (go_at_call 29; refine HVN2.out.mono ?_; rintro e1 w6 ⟨rfl, hl⟩
               have HE := Lib.hid ((hl.pre HB5.out).pre HB0.out)
               clear hl)
  go_ret
  exact ⟨rfl, HE.out⟩
end Go.Proofs.Ytogogekmodbdiaa
