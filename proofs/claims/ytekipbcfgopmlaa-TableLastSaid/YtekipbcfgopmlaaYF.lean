/- TableLast: the law's own body answers true. -/
import Derived.Test.YtekipbcfgopmlaaYE
namespace Go.Proofs.Ytekipbcfgopmlaa
open Go.RowKit

def TlL (w : World) (v6 : Value) (wr : World) : Prop := ∃ (i : Nat) (G D : Nat → Prop) (P : Nat) (ps : List Pg) (L : List (List UInt8 × List UInt8)), v6 = .int .i64 i ∧ i ≤ 150 ∧ L.length ≤ 150 ∧ TaW w wr G D w.heap.size P ps L
set_option maxRecDepth 100000 in
set_option maxHeartbeats 16000000 in
theorem tableLast_law (l : List Act8) (t : List UInt8) (A T : Option Addr) (cap tc : Nat) (w : World) (hl : l.length ≤ maxLen) (ht : t.length ≤ maxLen) (hr : RdA8 w w.heap.size A l) (hok : ∀ x ∈ l, x.ok w w.heap.size) (hrt : RdB w w.heap.size T t) :
    Calls Try.prog 7 #[.slice A l.length cap, .slice T t.length tc] w (Ans (.bool true) w) := by
  have AL := Lib.hid alive_table
  obtain ⟨tn, htn⟩ : ∃ tn, t.length = tn := ⟨_, rfl⟩
  obtain ⟨n, hn⟩ : ∃ n, l.length = n := ⟨_, rfl⟩
  rw [htn] at ht ⊢
  have HBU := Lib.hid (built_any l A n cap w hn (by omega) hr hok)
  have HRT : Hid (∀ W, Below w.heap.size w W → RdB W W.heap.size T t) := Lib.hid fun W hb => (hrt.below hb (Nat.le_refl _)).more hb.size
  rw [hn]
  have hti : (tn : Int) ≤ 9223372036854775807 := by unfold maxLen at ht; omega
  by_cases hbig : 40 < tn
  · have h40 : (40 : Int) < (tn : Int) := by omega
    clear hl ht hr hok hrt htn hn hbig
    go_enter Try.func7, Try.ntmps7
    go_wp2_with (go_at_call 9; refine (AL.out _).mono ?_; rintro e w22 ⟨rfl, hb⟩; have HB22 := Lib.hid hb; clear hb)
    go_ret
    exact ⟨rfl, HB22.out⟩
  by_cases h0 : tn = 0
  · have h40 : ¬ (40 : Int) < (tn : Int) := by omega
    have h00 : ((tn : Int) == 0) = true := by rw [h0]; rfl
    clear hl ht hr hok hrt htn hn hbig h0
    go_enter Try.func7, Try.ntmps7
    go_wp2_with (go_at_call 9; refine (AL.out _).mono ?_; rintro e w22 ⟨rfl, hb⟩; have HB22 := Lib.hid hb; clear hb)
    go_ret
    exact ⟨rfl, HB22.out⟩
  have h40 : ¬ (40 : Int) < (tn : Int) := by omega
  have h00 : ((tn : Int) == 0) = false := beq_false_of_ne (by omega)
  have HT0 : Hid (t ≠ []) := Lib.hid (fun e => h0 (by rw [← htn, e]; rfl))
  have HTN := Lib.hid htn
  clear hl ht hr hok hrt htn hn hbig h0
  go_enter Try.func7, Try.ntmps7
  go_wp2_with (go_at_call 23; refine HBU.out.mono ?_; rintro e w1 ⟨rfl, G0, D0, P0, ps0, hT0⟩
               have HST : Hid (TlL w (.int .i64 0) w1) := Lib.hid ⟨0, G0, D0, P0, ps0, _, rfl, by omega, Nat.le_trans (bldTo_len _ _) (Nat.min_le_right _ _), hT0⟩
               clear hT0)
  go_loopw [6] (fun v6 wr => TlL w v6 wr) (fun v6 _ => 150 - (intOf v6).toNat)
  case atStart => exact HST.out
  case round =>
    obtain ⟨i, G, D, P, ps, L, rfl, hi, hLL, hT⟩ := hrel
    have HT := Lib.hid hT
    have HLL := Lib.hid hLL
    clear hT hLL
    by_cases hlt : i < 150
    · have hlti : (i : Int) < 150 := by omega
      have HKV := Lib.hid HT.out.kv
      obtain ⟨K, hK⟩ : ∃ K, K = kv (rangeL [] t (flat ps)) := ⟨_, rfl⟩
      have HKL : Hid (K.length ≤ 150) := Lib.hid (by
        have h1 := range_le [] t (flat ps)
        have h2 := congrArg List.length HKV.out
        have h3 := HLL.out
        rw [hK]
        simp only [kv, List.length_map] at h2 ⊢
        omega)
      have HMEM : Hid (∀ x, x ∈ K → (getK L x.1).isSome = true) := Lib.hid fun x hx => by
        rw [hK] at hx
        have h1 := range_mem hx
        rw [← HKV.out, getK_mem (rise_pair HT.out.tb.rise) (k := x.1) (r := x.2) h1]
        rfl
      have HRA : Hid (∀ W, Below wr.heap.size wr W → Calls Try.prog 17 #[.pointer (some ⟨w.heap.size, 0, none⟩), .slice none 0 0, .slice T tn tc, .int .i64 150] W (RgT W K)) := Lib.hid fun W hb => by
        have hbw := HT.out.bel.trans (hb.mono HT.out.bel.size)
        have h := range_any (HT.out.below hb).tb none T [] t 0 0 tn tc 150 rfl HTN.out (fun hn => absurd rfl hn) (HRT.out W hbw)
        rw [show (150 : Int).toNat = 150 from rfl, kv_take_all (by have h1 := HKL.out; rw [hK] at h1; simpa [kv] using h1), ← hK] at h
        exact h
      have HLA : Hid (∀ W, Below wr.heap.size wr W → Calls Try.prog 25 #[.pointer (some ⟨w.heap.size, 0, none⟩), .slice T tn tc] W (LastT W K)) := Lib.hid fun W hb => by
        have hbw := HT.out.bel.trans (hb.mono HT.out.bel.size)
        have h := last_till (HT.out.below hb).tb t HT0.out T tn tc HTN.out (HRT.out W hbw)
        rw [← hK] at h
        exact h
      clear hK
      by_cases hKn : K = []
      · have HR2 := Lib.hid (fun W hb => range_n hKn (HRA.out W hb))
        have HL2 := Lib.hid (fun W hb => last_n hKn (HLA.out W hb))
        clear hKn hlt hi
        go_wp2_with (first
          | (go_at_call 17; (with_reducible refine (HR2.out _ (Below.refl _ _)).mono ?_); rintro e w2 ⟨A2, c2, rfl, hb⟩
             have HB2 := Lib.hid hb
             clear hb)
          | (go_at_call 25; (with_reducible refine (HL2.out _ HB2.out).mono ?_); rintro e w3 ⟨rfl, hb⟩
             have HB3 := Lib.hid (HB2.out.trans (hb.mono HB2.out.size))
             clear hb)
          | fail)
        have HT9 := Lib.hid (HT.out.below (HB3.out.trans ((alloc_below w3 (.cells #[.slice none 0 0, .slice none 0 0] 46)).mono HB3.out.size)))
        generalize hW9 : w3.alloc (.cells #[.slice none 0 0, .slice none 0 0] 46) = W9 at HT9 ⊢
        clear hW9 HRA HLA HKL HMEM HR2 HL2 HKV
        have HT := HT9
        clear HT9
        have HKV := Lib.hid HT.out.kv
        obtain ⟨K, hK⟩ : ∃ K, K = kv (flat ps) := ⟨_, rfl⟩
        have HRA : Hid (∀ W, Below W9.heap.size W9 W → Calls Try.prog 17 #[.pointer (some ⟨w.heap.size, 0, none⟩), .slice none 0 0, .slice none 0 0, .int .i64 150] W (RgT W K)) := Lib.hid fun W hb => by
          have h := range_any (HT.out.below hb).tb none none [] [] 0 0 0 0 150 rfl rfl (fun hn => absurd rfl hn) (fun hn => absurd rfl hn)
          rw [rangeL_all, show (150 : Int).toNat = 150 from rfl, kv_take_all (by have h1 := congrArg List.length HKV.out; simp [kv] at h1; have h2 := HLL.out; omega), ← hK] at h
          exact h
        have HLA : Hid (∀ W, Below W9.heap.size W9 W → Calls Try.prog 25 #[.pointer (some ⟨w.heap.size, 0, none⟩), .slice none 0 0] W (LastT W K)) := Lib.hid fun W hb => by
          have h := last_nil (HT.out.below hb).tb
          rw [← hK] at h
          exact h
        have HBW := Lib.hid HT.out.bel
        have HKL : Hid (K.length ≤ 150) := Lib.hid (by rw [hK, HKV.out]; exact HLL.out)
        clear hK
        by_cases hKn : K = []
        · have HR2 := Lib.hid (fun W hb => range_n hKn (HRA.out W hb))
          have HL2 := Lib.hid (fun W hb => last_n hKn (HLA.out W hb))
          clear hKn
          go_wp2_with (first
            | (go_at_call 17; refine (HR2.out _ (Below.refl _ _)).mono ?_; rintro e w20 ⟨A20, c20, rfl, hb⟩
               have HB20 := Lib.hid hb
               clear hb)
            | (go_at_call 25; refine (HL2.out _ HB20.out).mono ?_; rintro e w21 ⟨rfl, hb⟩
               have HB21 := Lib.hid (HB20.out.trans (hb.mono HB20.out.size))
               clear hb)
            | fail)
          have HB22 := Lib.hid (HBW.out.trans ((HB21.out.trans (((alloc_below w21 (.cells #[.slice none 0 0, .slice none 0 0] 46)).trans ((drew_below _).mono (by simp))).mono HB21.out.size)).mono HBW.out.size))
          refine wp_region_held_drew (S := fun _ => True) (by kernel_rfl) trivial (fun _ => ?_)
          refine wpAnyH_ready (rs := [0]) (by kernel_rfl) (by simp) ?_
          refine AllReadyH.cons (o := ({ dst := some 85, op := Go.Op.call { callee := Go.Callee.value (Go.Operand.func 9), args := #[], argTypes := #[] }, type := 4, pos := "law.go:232", after := #[], guard := none } : Oper)) rfl (fun K0 hK0 => ?_) AllReadyH.nil
          go_simp
          go_at_call 9
          refine (AL.out _).mono ?_
          rintro e w22 ⟨rfl, hb⟩
          have HB22 := Lib.hid (HB22.out.trans (hb.mono HB22.out.size))
          clear hb
          try go_wp2_with fail
          refine hK0.out _ _ trivial (fun _ => ?_)
          clear hK0 K0
          try simp only [Act.put, List.setIfInBounds_toArray, List.set_cons_zero, List.set_cons_succ]
          refine wpAnyH_take (i := 1) (oi := ({ dst := some 86, op := Go.Op.move (Go.Operand.tmp 85), type := 4, pos := "law.go:232", after := #[{ on := 0, ground := Go.Ground.data }, { on := 0, ground := Go.Ground.chain }], guard := none } : Oper)) (v := ?v1x53) rfl (by kernel_rfl) (by kernel_rfl) (by kernel_rfl) (fun _ _ _ h => h) (Or.inl ⟨by rfl, ?hy1x53⟩) (by first | exact trivial | assumption) ?rest1x53
          case hy1x53 =>
            intro W0 hSw
            (try dsimp only at hSw)
            go_simp
            first | done | with_reducible rfl
          try simp only [Act.put, List.setIfInBounds_toArray, List.set_cons_zero, List.set_cons_succ]
          refine wpAnyH_take (i := 2) (oi := ({ dst := some 87, op := Go.Op.move (Go.Operand.tmp 15), type := 4, pos := "law.go:232", after := #[{ on := 1, ground := Go.Ground.guard }], guard := some (1, true) } : Oper)) (v := ?v2x54) rfl (by kernel_rfl) (by kernel_rfl) (by kernel_rfl) (fun _ _ _ h => h) (Or.inl ⟨by rfl, ?hy2x54⟩) (by first | exact trivial | assumption) ?rest2x54
          case hy2x54 =>
            intro W0 hSw
            (try dsimp only at hSw)
            go_simp
            first | done | with_reducible rfl
          try simp only [Act.put, List.setIfInBounds_toArray, List.set_cons_zero, List.set_cons_succ]
          refine wpAnyH_take (i := 3) (oi := ({ dst := some 88, op := Go.Op.move (Go.Operand.tmp 13), type := 40, pos := "law.go:232", after := #[{ on := 1, ground := Go.Ground.guard }], guard := some (1, true) } : Oper)) (v := ?v3x55) rfl (by kernel_rfl) (by kernel_rfl) (by kernel_rfl) (fun _ _ _ h => h) (Or.inl ⟨by rfl, ?hy3x55⟩) (by first | exact trivial | assumption) ?rest3x55
          case hy3x55 =>
            intro W0 hSw
            (try dsimp only at hSw)
            go_simp
            first | done | with_reducible rfl
          try simp only [Act.put, List.setIfInBounds_toArray, List.set_cons_zero, List.set_cons_succ]
          refine wpAnyH_take (i := 4) (oi := ({ dst := some 89, op := Go.Op.call { callee := Go.Callee.builtin Go.Builtin.len, args := #[Go.Operand.tmp 88], argTypes := #[40] }, type := 3, pos := "law.go:232", after := #[{ on := 3, ground := Go.Ground.data }, { on := 1, ground := Go.Ground.guard }], guard := some (1, true) } : Oper)) (v := ?v4x56) rfl (by kernel_rfl) (by kernel_rfl) (by kernel_rfl) (fun _ _ _ h => h) (Or.inl ⟨by rfl, ?hy4x56⟩) (by first | exact trivial | assumption) ?rest4x56
          case hy4x56 =>
            intro W0 hSw
            (try dsimp only at hSw)
            go_simp
            first | done | with_reducible rfl
          try simp only [Act.put, List.setIfInBounds_toArray, List.set_cons_zero, List.set_cons_succ]
          refine wpAnyH_take (i := 5) (oi := ({ dst := some 90, op := Go.Op.binOp Go.BinOp.gtr 3 (Go.Operand.tmp 89) (Go.Operand.const (Go.Value.int Go.IntKind.i64 0)) 3, type := 4, pos := "law.go:232", after := #[{ on := 4, ground := Go.Ground.data }, { on := 1, ground := Go.Ground.guard }], guard := some (1, true) } : Oper)) (v := ?v5x57) rfl (by kernel_rfl) (by kernel_rfl) (by kernel_rfl) (fun _ _ _ h => h) (Or.inl ⟨by rfl, ?hy5x57⟩) (by first | exact trivial | assumption) ?rest5x57
          case hy5x57 =>
            intro W0 hSw
            (try dsimp only at hSw)
            go_simp
            first | done | with_reducible rfl
          try simp only [Act.put, List.setIfInBounds_toArray, List.set_cons_zero, List.set_cons_succ]
          refine wpAnyH_take (i := 6) (oi := ({ dst := some 91, op := Go.Op.binOp Go.BinOp.eql 4 (Go.Operand.tmp 87) (Go.Operand.tmp 90) 4, type := 4, pos := "law.go:232", after := #[{ on := 2, ground := Go.Ground.data }, { on := 5, ground := Go.Ground.data }, { on := 1, ground := Go.Ground.guard }], guard := some (1, true) } : Oper)) (v := ?v6x58) rfl (by kernel_rfl) (by kernel_rfl) (by kernel_rfl) (fun _ _ _ h => h) (Or.inl ⟨by rfl, ?hy6x58⟩) (by first | exact trivial | assumption) ?rest6x58
          case hy6x58 =>
            intro W0 hSw
            (try dsimp only at hSw)
            go_simp
            first | done | with_reducible rfl
          try simp only [Act.put, List.setIfInBounds_toArray, List.set_cons_zero, List.set_cons_succ]
          refine wpAnyH_take (i := 7) (oi := ({ dst := some 92, op := Go.Op.pick (Go.Operand.tmp 86) (Go.Operand.tmp 91) (Go.Operand.const (Go.Value.bool false)), type := 4, pos := "law.go:232", after := #[{ on := 1, ground := Go.Ground.data }, { on := 6, ground := Go.Ground.data }], guard := none } : Oper)) (v := ?v7x59) rfl (by kernel_rfl) (by kernel_rfl) (by kernel_rfl) (fun _ _ _ h => h) (Or.inl ⟨by rfl, ?hy7x59⟩) (by first | exact trivial | assumption) ?rest7x59
          case hy7x59 =>
            intro W0 hSw
            (try dsimp only at hSw)
            go_simp
            first | done | with_reducible rfl
          try simp only [Act.put, List.setIfInBounds_toArray, List.set_cons_zero, List.set_cons_succ]
          refine wpAnyH_take (i := 8) (oi := ({ dst := some 93, op := Go.Op.move (Go.Operand.tmp 92), type := 4, pos := "law.go:232", after := #[{ on := 7, ground := Go.Ground.data }, { on := 1, ground := Go.Ground.chain }], guard := none } : Oper)) (v := ?v8x60) rfl (by kernel_rfl) (by kernel_rfl) (by kernel_rfl) (fun _ _ _ h => h) (Or.inl ⟨by rfl, ?hy8x60⟩) (by first | exact trivial | assumption) ?rest8x60
          case hy8x60 =>
            intro W0 hSw
            (try dsimp only at hSw)
            go_simp
            first | done | with_reducible rfl
          try simp only [Act.put, List.setIfInBounds_toArray, List.set_cons_zero, List.set_cons_succ]
          refine wpAnyH_take (i := 9) (oi := ({ dst := some 94, op := Go.Op.move (Go.Operand.tmp 15), type := 4, pos := "law.go:232", after := #[{ on := 8, ground := Go.Ground.guard }], guard := some (8, true) } : Oper)) (v := ?v9x61) rfl (by kernel_rfl) (by kernel_rfl) (by kernel_rfl) (fun _ _ _ h => h) (Or.inl ⟨by rfl, ?hy9x61⟩) (by first | exact trivial | assumption) ?rest9x61
          case hy9x61 =>
            intro W0 hSw
            (try dsimp only at hSw)
            go_simp
            first | done | with_reducible rfl
          try simp only [Act.put, List.setIfInBounds_toArray, List.set_cons_zero, List.set_cons_succ]
          refine wpAnyH_take (i := 10) (oi := ({ dst := some 95, op := Go.Op.unOp Go.UnOp.not 4 (Go.Operand.tmp 94), type := 4, pos := "law.go:232", after := #[{ on := 9, ground := Go.Ground.data }, { on := 8, ground := Go.Ground.guard }], guard := some (8, true) } : Oper)) (v := ?v10x62) rfl (by kernel_rfl) (by kernel_rfl) (by kernel_rfl) (fun _ _ _ h => h) (Or.inl ⟨by rfl, ?hy10x62⟩) (by first | exact trivial | assumption) ?rest10x62
          case hy10x62 =>
            intro W0 hSw
            (try dsimp only at hSw)
            go_simp
            first | done | with_reducible rfl
          try simp only [Act.put, List.setIfInBounds_toArray, List.set_cons_zero, List.set_cons_succ]
          refine wpAnyH_take (i := 11) (oi := ({ dst := some 96, op := Go.Op.move (Go.Operand.tmp 95), type := 4, pos := "law.go:232", after := #[{ on := 10, ground := Go.Ground.data }, { on := 8, ground := Go.Ground.chain }, { on := 8, ground := Go.Ground.guard }], guard := some (8, true) } : Oper)) (v := ?v11x63) rfl (by kernel_rfl) (by kernel_rfl) (by kernel_rfl) (fun _ _ _ h => h) (Or.inl ⟨by rfl, ?hy11x63⟩) (by first | exact trivial | assumption) ?rest11x63
          case hy11x63 =>
            intro W0 hSw
            (try dsimp only at hSw)
            go_simp
            first | done | with_reducible rfl
          try simp only [Act.put, List.setIfInBounds_toArray, List.set_cons_zero, List.set_cons_succ]
          refine wpAnyH_take (i := 12) (oi := ({ dst := some 97, op := Go.Op.fieldAddr 46 (Go.Operand.tmp 14) 0, type := 0, pos := "law.go:232", after := #[{ on := 11, ground := Go.Ground.guard }], guard := some (11, false) } : Oper)) (v := undef) rfl (by kernel_rfl) (by kernel_rfl) (by kernel_rfl) (fun _ _ _ h => h) (Or.inr ⟨by rfl, rfl⟩) (by first | exact trivial | assumption) ?_
          try simp only [Act.put, List.setIfInBounds_toArray, List.set_cons_zero, List.set_cons_succ]
          refine wpAnyH_take (i := 13) (oi := ({ dst := some 98, op := Go.Op.load 23 (Go.Operand.tmp 97), type := 23, pos := "law.go:232", after := #[{ on := 12, ground := Go.Ground.data }, { on := 11, ground := Go.Ground.guard }], guard := some (11, false) } : Oper)) (v := undef) rfl (by kernel_rfl) (by kernel_rfl) (by kernel_rfl) (fun _ _ _ h => h) (Or.inr ⟨by rfl, rfl⟩) (by first | exact trivial | assumption) ?_
          try simp only [Act.put, List.setIfInBounds_toArray, List.set_cons_zero, List.set_cons_succ]
          refine wpAnyH_take (i := 14) (oi := ({ dst := some 99, op := Go.Op.convert 23 9 (Go.Operand.tmp 98), type := 9, pos := "law.go:232", after := #[{ on := 13, ground := Go.Ground.data }, { on := 11, ground := Go.Ground.guard }], guard := some (11, false) } : Oper)) (v := undef) rfl (by kernel_rfl) (by kernel_rfl) (by kernel_rfl) (fun _ _ _ h => h) (Or.inr ⟨by rfl, rfl⟩) (by first | exact trivial | assumption) ?_
          try simp only [Act.put, List.setIfInBounds_toArray, List.set_cons_zero, List.set_cons_succ]
          refine wpAnyH_take (i := 15) (oi := ({ dst := some 100, op := Go.Op.move (Go.Operand.tmp 13), type := 40, pos := "law.go:232", after := #[{ on := 11, ground := Go.Ground.guard }], guard := some (11, false) } : Oper)) (v := undef) rfl (by kernel_rfl) (by kernel_rfl) (by kernel_rfl) (fun _ _ _ h => h) (Or.inr ⟨by rfl, rfl⟩) (by first | exact trivial | assumption) ?_
          try simp only [Act.put, List.setIfInBounds_toArray, List.set_cons_zero, List.set_cons_succ]
          refine wpAnyH_take (i := 16) (oi := ({ dst := some 101, op := Go.Op.move (Go.Operand.tmp 13), type := 40, pos := "law.go:232", after := #[{ on := 11, ground := Go.Ground.guard }], guard := some (11, false) } : Oper)) (v := undef) rfl (by kernel_rfl) (by kernel_rfl) (by kernel_rfl) (fun _ _ _ h => h) (Or.inr ⟨by rfl, rfl⟩) (by first | exact trivial | assumption) ?_
          try simp only [Act.put, List.setIfInBounds_toArray, List.set_cons_zero, List.set_cons_succ]
          refine wpAnyH_take (i := 17) (oi := ({ dst := some 102, op := Go.Op.call { callee := Go.Callee.builtin Go.Builtin.len, args := #[Go.Operand.tmp 101], argTypes := #[40] }, type := 3, pos := "law.go:232", after := #[{ on := 16, ground := Go.Ground.data }, { on := 11, ground := Go.Ground.guard }], guard := some (11, false) } : Oper)) (v := undef) rfl (by kernel_rfl) (by kernel_rfl) (by kernel_rfl) (fun _ _ _ h => h) (Or.inr ⟨by rfl, rfl⟩) (by first | exact trivial | assumption) ?_
          try simp only [Act.put, List.setIfInBounds_toArray, List.set_cons_zero, List.set_cons_succ]
          refine wpAnyH_take (i := 18) (oi := ({ dst := some 103, op := Go.Op.binOp Go.BinOp.sub 3 (Go.Operand.tmp 102) (Go.Operand.const (Go.Value.int Go.IntKind.i64 1)) 3, type := 3, pos := "law.go:232", after := #[{ on := 17, ground := Go.Ground.data }, { on := 11, ground := Go.Ground.guard }], guard := some (11, false) } : Oper)) (v := undef) rfl (by kernel_rfl) (by kernel_rfl) (by kernel_rfl) (fun _ _ _ h => h) (Or.inr ⟨by rfl, rfl⟩) (by first | exact trivial | assumption) ?_
          try simp only [Act.put, List.setIfInBounds_toArray, List.set_cons_zero, List.set_cons_succ]
          refine wpAnyH_take (i := 19) (oi := ({ dst := some 104, op := Go.Op.indexAddr 40 (Go.Operand.tmp 100) (Go.Operand.tmp 103), type := 0, pos := "law.go:232", after := #[{ on := 15, ground := Go.Ground.data }, { on := 18, ground := Go.Ground.data }, { on := 11, ground := Go.Ground.guard }], guard := some (11, false) } : Oper)) (v := undef) rfl (by kernel_rfl) (by kernel_rfl) (by kernel_rfl) (fun _ _ _ h => h) (Or.inr ⟨by rfl, rfl⟩) (by first | exact trivial | assumption) ?_
          try simp only [Act.put, List.setIfInBounds_toArray, List.set_cons_zero, List.set_cons_succ]
          refine wpAnyH_take (i := 20) (oi := ({ dst := some 105, op := Go.Op.fieldAddr 46 (Go.Operand.tmp 104) 0, type := 0, pos := "law.go:232", after := #[{ on := 19, ground := Go.Ground.data }, { on := 11, ground := Go.Ground.guard }], guard := some (11, false) } : Oper)) (v := undef) rfl (by kernel_rfl) (by kernel_rfl) (by kernel_rfl) (fun _ _ _ h => h) (Or.inr ⟨by rfl, rfl⟩) (by first | exact trivial | assumption) ?_
          try simp only [Act.put, List.setIfInBounds_toArray, List.set_cons_zero, List.set_cons_succ]
          refine wpAnyH_take (i := 21) (oi := ({ dst := some 106, op := Go.Op.load 23 (Go.Operand.tmp 105), type := 23, pos := "law.go:232", after := #[{ on := 20, ground := Go.Ground.data }, { on := 11, ground := Go.Ground.guard }], guard := some (11, false) } : Oper)) (v := undef) rfl (by kernel_rfl) (by kernel_rfl) (by kernel_rfl) (fun _ _ _ h => h) (Or.inr ⟨by rfl, rfl⟩) (by first | exact trivial | assumption) ?_
          try simp only [Act.put, List.setIfInBounds_toArray, List.set_cons_zero, List.set_cons_succ]
          refine wpAnyH_take (i := 22) (oi := ({ dst := some 107, op := Go.Op.convert 23 9 (Go.Operand.tmp 106), type := 9, pos := "law.go:232", after := #[{ on := 21, ground := Go.Ground.data }, { on := 11, ground := Go.Ground.guard }], guard := some (11, false) } : Oper)) (v := undef) rfl (by kernel_rfl) (by kernel_rfl) (by kernel_rfl) (fun _ _ _ h => h) (Or.inr ⟨by rfl, rfl⟩) (by first | exact trivial | assumption) ?_
          try simp only [Act.put, List.setIfInBounds_toArray, List.set_cons_zero, List.set_cons_succ]
          refine wpAnyH_take (i := 23) (oi := ({ dst := some 108, op := Go.Op.binOp Go.BinOp.eql 9 (Go.Operand.tmp 99) (Go.Operand.tmp 107) 9, type := 4, pos := "law.go:232", after := #[{ on := 14, ground := Go.Ground.data }, { on := 22, ground := Go.Ground.data }, { on := 11, ground := Go.Ground.guard }], guard := some (11, false) } : Oper)) (v := undef) rfl (by kernel_rfl) (by kernel_rfl) (by kernel_rfl) (fun _ _ _ h => h) (Or.inr ⟨by rfl, rfl⟩) (by first | exact trivial | assumption) ?_
          try simp only [Act.put, List.setIfInBounds_toArray, List.set_cons_zero, List.set_cons_succ]
          refine wpAnyH_take (i := 24) (oi := ({ dst := some 109, op := Go.Op.pick (Go.Operand.tmp 96) (Go.Operand.const (Go.Value.bool true)) (Go.Operand.tmp 108), type := 4, pos := "law.go:232", after := #[{ on := 11, ground := Go.Ground.data }, { on := 23, ground := Go.Ground.data }, { on := 8, ground := Go.Ground.guard }], guard := some (8, true) } : Oper)) (v := ?v24x76) rfl (by kernel_rfl) (by kernel_rfl) (by kernel_rfl) (fun _ _ _ h => h) (Or.inl ⟨by rfl, ?hy24x76⟩) (by first | exact trivial | assumption) ?rest24x76
          case hy24x76 =>
            intro W0 hSw
            (try dsimp only at hSw)
            go_simp
            first | done | with_reducible rfl
          try simp only [Act.put, List.setIfInBounds_toArray, List.set_cons_zero, List.set_cons_succ]
          refine wpAnyH_take (i := 25) (oi := ({ dst := some 110, op := Go.Op.pick (Go.Operand.tmp 93) (Go.Operand.tmp 109) (Go.Operand.const (Go.Value.bool false)), type := 4, pos := "law.go:232", after := #[{ on := 8, ground := Go.Ground.data }, { on := 24, ground := Go.Ground.data }], guard := none } : Oper)) (v := ?v25x77) rfl (by kernel_rfl) (by kernel_rfl) (by kernel_rfl) (fun _ _ _ h => h) (Or.inl ⟨by rfl, ?hy25x77⟩) (by first | exact trivial | assumption) ?rest25x77
          case hy25x77 =>
            intro W0 hSw
            (try dsimp only at hSw)
            go_simp
            first | done | with_reducible rfl
          try simp only [Act.put, List.setIfInBounds_toArray, List.set_cons_zero, List.set_cons_succ]
          refine wpAnyH_take (i := 26) (oi := ({ dst := some 4, op := Go.Op.assign (Go.Operand.tmp 110), type := 4, pos := "law.go:232", after := #[{ on := 25, ground := Go.Ground.data }, { on := 11, ground := Go.Ground.chain }, { on := 0, ground := Go.Ground.phase }, { on := 1, ground := Go.Ground.phase }, { on := 2, ground := Go.Ground.phase }, { on := 3, ground := Go.Ground.phase }, { on := 4, ground := Go.Ground.phase }, { on := 5, ground := Go.Ground.phase }, { on := 6, ground := Go.Ground.phase }, { on := 7, ground := Go.Ground.phase }, { on := 8, ground := Go.Ground.phase }, { on := 9, ground := Go.Ground.phase }, { on := 10, ground := Go.Ground.phase }, { on := 11, ground := Go.Ground.phase }, { on := 12, ground := Go.Ground.phase }, { on := 13, ground := Go.Ground.phase }, { on := 14, ground := Go.Ground.phase }, { on := 15, ground := Go.Ground.phase }, { on := 16, ground := Go.Ground.phase }, { on := 17, ground := Go.Ground.phase }, { on := 18, ground := Go.Ground.phase }, { on := 19, ground := Go.Ground.phase }, { on := 20, ground := Go.Ground.phase }, { on := 21, ground := Go.Ground.phase }, { on := 22, ground := Go.Ground.phase }, { on := 23, ground := Go.Ground.phase }, { on := 24, ground := Go.Ground.phase }, { on := 25, ground := Go.Ground.phase }], guard := none } : Oper)) (v := ?v26x78) rfl (by kernel_rfl) (by kernel_rfl) (by kernel_rfl) (fun _ _ _ h => h) (Or.inl ⟨by rfl, ?hy26x78⟩) (by first | exact trivial | assumption) ?rest26x78
          case hy26x78 =>
            intro W0 hSw
            (try dsimp only at hSw)
            go_simp
            first | done | with_reducible rfl
          try simp only [Act.put, List.setIfInBounds_toArray, List.set_cons_zero, List.set_cons_succ]
          refine wpAnyH_done (by kernel_rfl) ?_ _
          go_wp2_with fail
          go_ret
          exact ⟨rfl, HB22.out⟩
        · obtain ⟨m, hm⟩ : ∃ m, K.length = m + 1 := ⟨K.length - 1, by have := List.length_pos_iff.2 hKn; omega⟩
          obtain ⟨⟨k, r⟩, hl⟩ : ∃ x, K.getLast? = some x := by
            cases h : K.getLast? with
            | none => exact absurd (List.getLast?_eq_none_iff.1 h) hKn
            | some x => exact ⟨x, rfl⟩
          obtain ⟨kn, hkn⟩ : ∃ kn, k.length = kn := ⟨_, rfl⟩
          obtain ⟨rn, hrn⟩ : ∃ rn, r.length = rn := ⟨_, rfl⟩
          obtain ⟨S, hS⟩ := ba_of k
          have HS := Lib.hid hS
          have HR2 := Lib.hid (fun W hb => range_y hm hl hkn hrn (HRA.out W hb))
          have HL2 := Lib.hid (fun W hb => last_y hl hkn hrn (HLA.out W hb))
          have hse : (S.toList == S.toList) = true := by simp
          have hmi : (m : Int) ≤ 150 := by have h1 := HKL.out; omega
          clear hKn hm hl hkn hrn hS
          go_wp2_with (first
            | (go_at_call 17; refine (HR2.out _ (Below.refl _ _)).mono ?_; rintro e w20 ⟨g20, o20, cap20, kA1, kc1, rA1, rc1, rfl, hcp, c1, c2, ho1, ho2, hg, hb⟩
               have HB20 := Lib.hid hb
               have H1 := Lib.hid ho1
               have HC1 := Lib.hid c1
               have HG := Lib.hid hg
               have hci : (m : Int) + 1 ≤ (cap20 : Int) := by omega
               clear hb ho1 ho2 c1 c2 hg hcp)
            | (go_at_call 25; refine (HL2.out _ HB20.out).mono ?_; rintro e w21 ⟨kA2, kc2, rA2, rc2, rfl, ho3, ho4, hb⟩
               have HB21 := Lib.hid hb
               have H3 := Lib.hid ho3
               clear hb ho3 ho4)
            | fail)
          have HX := Lib.hid ((alloc_below w21 (.cells #[.slice kA2 kn kc2, .slice rA2 rn rc2] 46)).trans ((drew_below _).mono (by simp)))
          have HBE := Lib.hid (heap_alloc_new w21 (.cells #[.slice kA2 kn kc2, .slice rA2 rn rc2] 46))
          have hwm : IntKind.i64.wrap (m : Int) = (m : Int) := by rw [IntKind.wrap_i64]; omega
          have hm1 : (m : Int) < (m : Int) + 1 := by omega
          refine wp_region_held_drew (S := fun _ => True) (by kernel_rfl) trivial (fun _ => ?_)
          refine wpAnyH_ready (rs := [0]) (by kernel_rfl) (by simp) ?_
          refine AllReadyH.cons (o := ({ dst := some 85, op := Go.Op.call { callee := Go.Callee.value (Go.Operand.func 9), args := #[], argTypes := #[] }, type := 4, pos := "law.go:232", after := #[], guard := none } : Oper)) rfl (fun K0 hK0 => ?_) AllReadyH.nil
          go_simp
          go_at_call 9
          refine (AL.out _).mono ?_
          rintro e w22 ⟨rfl, hb⟩
          have hX := HX.out.trans (hb.mono HX.out.size)
          have hY := HB21.out.trans (hX.mono HB21.out.size)
          have HB22 := Lib.hid (HBW.out.trans ((HB20.out.trans (hY.mono HB20.out.size)).mono HBW.out.size))
          have hSS : (fun W => W.cell? ⟨w21.heap.size, 0, none⟩ = some (.slice kA2 kn kc2) ∧ W.cell? ⟨g20, o20 + m * 2, none⟩ = some (.slice kA1 kn kc1) ∧ (convert 23 9 (.slice kA2 kn kc2)).run Try.prog W = .ok (.string S) W ∧ (convert 23 9 (.slice kA1 kn kc1)).run Try.prog W = .ok (.string S) W) w22 := ⟨(box2 (((hb.trans (Below.refl _ _)).block _ (by simp)).trans HBE.out)).1, (World.cell?_of_block (hY.block g20 HG.out)).trans HC1.out, conv_ownS (H3.out.below hX) S HS.out, conv_ownS (H1.out.below hY) S HS.out⟩
          clear hb hX hY
          try go_wp2_with fail
          refine hK0.out _ _ trivial (fun _ => ?_)
          clear hK0 K0
          try simp only [Act.put, List.setIfInBounds_toArray, List.set_cons_zero, List.set_cons_succ]
          refine wpAnyH_mono (S' := (fun W => W.cell? ⟨w21.heap.size, 0, none⟩ = some (.slice kA2 kn kc2) ∧ W.cell? ⟨g20, o20 + m * 2, none⟩ = some (.slice kA1 kn kc1) ∧ (convert 23 9 (.slice kA2 kn kc2)).run Try.prog W = .ok (.string S) W ∧ (convert 23 9 (.slice kA1 kn kc1)).run Try.prog W = .ok (.string S) W)) (fun _ _ => trivial) ?_
          refine wpAnyH_take (i := 1) (oi := ({ dst := some 86, op := Go.Op.move (Go.Operand.tmp 85), type := 4, pos := "law.go:232", after := #[{ on := 0, ground := Go.Ground.data }, { on := 0, ground := Go.Ground.chain }], guard := none } : Oper)) (v := ?v1x79) rfl (by kernel_rfl) (by kernel_rfl) (by kernel_rfl) (fun _ _ _ h => h) (Or.inl ⟨by rfl, ?hy1x79⟩) (by first | exact trivial | assumption) ?rest1x79
          case hy1x79 =>
            intro W0 hSw
            obtain ⟨s1, s2, s3, s4⟩ := hSw
            go_simp
            first | done | with_reducible rfl
          try simp only [Act.put, List.setIfInBounds_toArray, List.set_cons_zero, List.set_cons_succ]
          refine wpAnyH_take (i := 2) (oi := ({ dst := some 87, op := Go.Op.move (Go.Operand.tmp 15), type := 4, pos := "law.go:232", after := #[{ on := 1, ground := Go.Ground.guard }], guard := some (1, true) } : Oper)) (v := ?v2x80) rfl (by kernel_rfl) (by kernel_rfl) (by kernel_rfl) (fun _ _ _ h => h) (Or.inl ⟨by rfl, ?hy2x80⟩) (by first | exact trivial | assumption) ?rest2x80
          case hy2x80 =>
            intro W0 hSw
            obtain ⟨s1, s2, s3, s4⟩ := hSw
            go_simp
            first | done | with_reducible rfl
          try simp only [Act.put, List.setIfInBounds_toArray, List.set_cons_zero, List.set_cons_succ]
          refine wpAnyH_take (i := 3) (oi := ({ dst := some 88, op := Go.Op.move (Go.Operand.tmp 13), type := 40, pos := "law.go:232", after := #[{ on := 1, ground := Go.Ground.guard }], guard := some (1, true) } : Oper)) (v := ?v3x81) rfl (by kernel_rfl) (by kernel_rfl) (by kernel_rfl) (fun _ _ _ h => h) (Or.inl ⟨by rfl, ?hy3x81⟩) (by first | exact trivial | assumption) ?rest3x81
          case hy3x81 =>
            intro W0 hSw
            obtain ⟨s1, s2, s3, s4⟩ := hSw
            go_simp
            first | done | with_reducible rfl
          try simp only [Act.put, List.setIfInBounds_toArray, List.set_cons_zero, List.set_cons_succ]
          refine wpAnyH_take (i := 4) (oi := ({ dst := some 89, op := Go.Op.call { callee := Go.Callee.builtin Go.Builtin.len, args := #[Go.Operand.tmp 88], argTypes := #[40] }, type := 3, pos := "law.go:232", after := #[{ on := 3, ground := Go.Ground.data }, { on := 1, ground := Go.Ground.guard }], guard := some (1, true) } : Oper)) (v := ?v4x82) rfl (by kernel_rfl) (by kernel_rfl) (by kernel_rfl) (fun _ _ _ h => h) (Or.inl ⟨by rfl, ?hy4x82⟩) (by first | exact trivial | assumption) ?rest4x82
          case hy4x82 =>
            intro W0 hSw
            obtain ⟨s1, s2, s3, s4⟩ := hSw
            go_simp
            first | done | with_reducible rfl
          try simp only [Act.put, List.setIfInBounds_toArray, List.set_cons_zero, List.set_cons_succ]
          refine wpAnyH_take (i := 5) (oi := ({ dst := some 90, op := Go.Op.binOp Go.BinOp.gtr 3 (Go.Operand.tmp 89) (Go.Operand.const (Go.Value.int Go.IntKind.i64 0)) 3, type := 4, pos := "law.go:232", after := #[{ on := 4, ground := Go.Ground.data }, { on := 1, ground := Go.Ground.guard }], guard := some (1, true) } : Oper)) (v := ?v5x83) rfl (by kernel_rfl) (by kernel_rfl) (by kernel_rfl) (fun _ _ _ h => h) (Or.inl ⟨by rfl, ?hy5x83⟩) (by first | exact trivial | assumption) ?rest5x83
          case hy5x83 =>
            intro W0 hSw
            obtain ⟨s1, s2, s3, s4⟩ := hSw
            go_simp
            first | done | with_reducible rfl
          try simp only [Act.put, List.setIfInBounds_toArray, List.set_cons_zero, List.set_cons_succ]
          refine wpAnyH_take (i := 6) (oi := ({ dst := some 91, op := Go.Op.binOp Go.BinOp.eql 4 (Go.Operand.tmp 87) (Go.Operand.tmp 90) 4, type := 4, pos := "law.go:232", after := #[{ on := 2, ground := Go.Ground.data }, { on := 5, ground := Go.Ground.data }, { on := 1, ground := Go.Ground.guard }], guard := some (1, true) } : Oper)) (v := ?v6x84) rfl (by kernel_rfl) (by kernel_rfl) (by kernel_rfl) (fun _ _ _ h => h) (Or.inl ⟨by rfl, ?hy6x84⟩) (by first | exact trivial | assumption) ?rest6x84
          case hy6x84 =>
            intro W0 hSw
            obtain ⟨s1, s2, s3, s4⟩ := hSw
            go_simp
            first | done | with_reducible rfl
          try simp only [Act.put, List.setIfInBounds_toArray, List.set_cons_zero, List.set_cons_succ]
          refine wpAnyH_take (i := 7) (oi := ({ dst := some 92, op := Go.Op.pick (Go.Operand.tmp 86) (Go.Operand.tmp 91) (Go.Operand.const (Go.Value.bool false)), type := 4, pos := "law.go:232", after := #[{ on := 1, ground := Go.Ground.data }, { on := 6, ground := Go.Ground.data }], guard := none } : Oper)) (v := ?v7x85) rfl (by kernel_rfl) (by kernel_rfl) (by kernel_rfl) (fun _ _ _ h => h) (Or.inl ⟨by rfl, ?hy7x85⟩) (by first | exact trivial | assumption) ?rest7x85
          case hy7x85 =>
            intro W0 hSw
            obtain ⟨s1, s2, s3, s4⟩ := hSw
            go_simp
            first | done | with_reducible rfl
          try simp only [Act.put, List.setIfInBounds_toArray, List.set_cons_zero, List.set_cons_succ]
          refine wpAnyH_take (i := 8) (oi := ({ dst := some 93, op := Go.Op.move (Go.Operand.tmp 92), type := 4, pos := "law.go:232", after := #[{ on := 7, ground := Go.Ground.data }, { on := 1, ground := Go.Ground.chain }], guard := none } : Oper)) (v := ?v8x86) rfl (by kernel_rfl) (by kernel_rfl) (by kernel_rfl) (fun _ _ _ h => h) (Or.inl ⟨by rfl, ?hy8x86⟩) (by first | exact trivial | assumption) ?rest8x86
          case hy8x86 =>
            intro W0 hSw
            obtain ⟨s1, s2, s3, s4⟩ := hSw
            go_simp
            first | done | with_reducible rfl
          try simp only [Act.put, List.setIfInBounds_toArray, List.set_cons_zero, List.set_cons_succ]
          refine wpAnyH_take (i := 9) (oi := ({ dst := some 94, op := Go.Op.move (Go.Operand.tmp 15), type := 4, pos := "law.go:232", after := #[{ on := 8, ground := Go.Ground.guard }], guard := some (8, true) } : Oper)) (v := ?v9x87) rfl (by kernel_rfl) (by kernel_rfl) (by kernel_rfl) (fun _ _ _ h => h) (Or.inl ⟨by rfl, ?hy9x87⟩) (by first | exact trivial | assumption) ?rest9x87
          case hy9x87 =>
            intro W0 hSw
            obtain ⟨s1, s2, s3, s4⟩ := hSw
            go_simp
            first | done | with_reducible rfl
          try simp only [Act.put, List.setIfInBounds_toArray, List.set_cons_zero, List.set_cons_succ]
          refine wpAnyH_take (i := 10) (oi := ({ dst := some 95, op := Go.Op.unOp Go.UnOp.not 4 (Go.Operand.tmp 94), type := 4, pos := "law.go:232", after := #[{ on := 9, ground := Go.Ground.data }, { on := 8, ground := Go.Ground.guard }], guard := some (8, true) } : Oper)) (v := ?v10x88) rfl (by kernel_rfl) (by kernel_rfl) (by kernel_rfl) (fun _ _ _ h => h) (Or.inl ⟨by rfl, ?hy10x88⟩) (by first | exact trivial | assumption) ?rest10x88
          case hy10x88 =>
            intro W0 hSw
            obtain ⟨s1, s2, s3, s4⟩ := hSw
            go_simp
            first | done | with_reducible rfl
          try simp only [Act.put, List.setIfInBounds_toArray, List.set_cons_zero, List.set_cons_succ]
          refine wpAnyH_take (i := 11) (oi := ({ dst := some 96, op := Go.Op.move (Go.Operand.tmp 95), type := 4, pos := "law.go:232", after := #[{ on := 10, ground := Go.Ground.data }, { on := 8, ground := Go.Ground.chain }, { on := 8, ground := Go.Ground.guard }], guard := some (8, true) } : Oper)) (v := ?v11x89) rfl (by kernel_rfl) (by kernel_rfl) (by kernel_rfl) (fun _ _ _ h => h) (Or.inl ⟨by rfl, ?hy11x89⟩) (by first | exact trivial | assumption) ?rest11x89
          case hy11x89 =>
            intro W0 hSw
            obtain ⟨s1, s2, s3, s4⟩ := hSw
            go_simp
            first | done | with_reducible rfl
          try simp only [Act.put, List.setIfInBounds_toArray, List.set_cons_zero, List.set_cons_succ]
          refine wpAnyH_take (i := 12) (oi := ({ dst := some 97, op := Go.Op.fieldAddr 46 (Go.Operand.tmp 14) 0, type := 0, pos := "law.go:232", after := #[{ on := 11, ground := Go.Ground.guard }], guard := some (11, false) } : Oper)) (v := ?v12x90) rfl (by kernel_rfl) (by kernel_rfl) (by kernel_rfl) (fun _ _ _ h => h) (Or.inl ⟨by rfl, ?hy12x90⟩) (by first | exact trivial | assumption) ?rest12x90
          case hy12x90 =>
            intro W0 hSw
            obtain ⟨s1, s2, s3, s4⟩ := hSw
            go_simp
            first | done | with_reducible rfl
          try simp only [Act.put, List.setIfInBounds_toArray, List.set_cons_zero, List.set_cons_succ]
          refine wpAnyH_take (i := 13) (oi := ({ dst := some 98, op := Go.Op.load 23 (Go.Operand.tmp 97), type := 23, pos := "law.go:232", after := #[{ on := 12, ground := Go.Ground.data }, { on := 11, ground := Go.Ground.guard }], guard := some (11, false) } : Oper)) (v := ?v13x91) rfl (by kernel_rfl) (by kernel_rfl) (by kernel_rfl) (fun _ _ _ h => h) (Or.inl ⟨by rfl, ?hy13x91⟩) (by first | exact trivial | assumption) ?rest13x91
          case hy13x91 =>
            intro W0 hSw
            obtain ⟨s1, s2, s3, s4⟩ := hSw
            go_simp
            first | done | with_reducible rfl
          try simp only [Act.put, List.setIfInBounds_toArray, List.set_cons_zero, List.set_cons_succ]
          refine wpAnyH_take (i := 14) (oi := ({ dst := some 99, op := Go.Op.convert 23 9 (Go.Operand.tmp 98), type := 9, pos := "law.go:232", after := #[{ on := 13, ground := Go.Ground.data }, { on := 11, ground := Go.Ground.guard }], guard := some (11, false) } : Oper)) (v := ?v14x92) rfl (by kernel_rfl) (by kernel_rfl) (by kernel_rfl) (fun _ _ _ h => h) (Or.inl ⟨by rfl, ?hy14x92⟩) (by first | exact trivial | assumption) ?rest14x92
          case hy14x92 =>
            intro W0 hSw
            obtain ⟨s1, s2, s3, s4⟩ := hSw
            go_simp
            first | done | with_reducible rfl
          try simp only [Act.put, List.setIfInBounds_toArray, List.set_cons_zero, List.set_cons_succ]
          refine wpAnyH_take (i := 15) (oi := ({ dst := some 100, op := Go.Op.move (Go.Operand.tmp 13), type := 40, pos := "law.go:232", after := #[{ on := 11, ground := Go.Ground.guard }], guard := some (11, false) } : Oper)) (v := ?v15x93) rfl (by kernel_rfl) (by kernel_rfl) (by kernel_rfl) (fun _ _ _ h => h) (Or.inl ⟨by rfl, ?hy15x93⟩) (by first | exact trivial | assumption) ?rest15x93
          case hy15x93 =>
            intro W0 hSw
            obtain ⟨s1, s2, s3, s4⟩ := hSw
            go_simp
            first | done | with_reducible rfl
          try simp only [Act.put, List.setIfInBounds_toArray, List.set_cons_zero, List.set_cons_succ]
          refine wpAnyH_take (i := 16) (oi := ({ dst := some 101, op := Go.Op.move (Go.Operand.tmp 13), type := 40, pos := "law.go:232", after := #[{ on := 11, ground := Go.Ground.guard }], guard := some (11, false) } : Oper)) (v := ?v16x94) rfl (by kernel_rfl) (by kernel_rfl) (by kernel_rfl) (fun _ _ _ h => h) (Or.inl ⟨by rfl, ?hy16x94⟩) (by first | exact trivial | assumption) ?rest16x94
          case hy16x94 =>
            intro W0 hSw
            obtain ⟨s1, s2, s3, s4⟩ := hSw
            go_simp
            first | done | with_reducible rfl
          try simp only [Act.put, List.setIfInBounds_toArray, List.set_cons_zero, List.set_cons_succ]
          refine wpAnyH_take (i := 17) (oi := ({ dst := some 102, op := Go.Op.call { callee := Go.Callee.builtin Go.Builtin.len, args := #[Go.Operand.tmp 101], argTypes := #[40] }, type := 3, pos := "law.go:232", after := #[{ on := 16, ground := Go.Ground.data }, { on := 11, ground := Go.Ground.guard }], guard := some (11, false) } : Oper)) (v := ?v17x95) rfl (by kernel_rfl) (by kernel_rfl) (by kernel_rfl) (fun _ _ _ h => h) (Or.inl ⟨by rfl, ?hy17x95⟩) (by first | exact trivial | assumption) ?rest17x95
          case hy17x95 =>
            intro W0 hSw
            obtain ⟨s1, s2, s3, s4⟩ := hSw
            go_simp
            first | done | with_reducible rfl
          try simp only [Act.put, List.setIfInBounds_toArray, List.set_cons_zero, List.set_cons_succ]
          refine wpAnyH_take (i := 18) (oi := ({ dst := some 103, op := Go.Op.binOp Go.BinOp.sub 3 (Go.Operand.tmp 102) (Go.Operand.const (Go.Value.int Go.IntKind.i64 1)) 3, type := 3, pos := "law.go:232", after := #[{ on := 17, ground := Go.Ground.data }, { on := 11, ground := Go.Ground.guard }], guard := some (11, false) } : Oper)) (v := ?v18x96) rfl (by kernel_rfl) (by kernel_rfl) (by kernel_rfl) (fun _ _ _ h => h) (Or.inl ⟨by rfl, ?hy18x96⟩) (by first | exact trivial | assumption) ?rest18x96
          case hy18x96 =>
            intro W0 hSw
            obtain ⟨s1, s2, s3, s4⟩ := hSw
            go_simp
            first | done | with_reducible rfl
          try simp only [Act.put, List.setIfInBounds_toArray, List.set_cons_zero, List.set_cons_succ]
          refine wpAnyH_take (i := 19) (oi := ({ dst := some 104, op := Go.Op.indexAddr 40 (Go.Operand.tmp 100) (Go.Operand.tmp 103), type := 0, pos := "law.go:232", after := #[{ on := 15, ground := Go.Ground.data }, { on := 18, ground := Go.Ground.data }, { on := 11, ground := Go.Ground.guard }], guard := some (11, false) } : Oper)) (v := ?v19x97) rfl (by kernel_rfl) (by kernel_rfl) (by kernel_rfl) (fun _ _ _ h => h) (Or.inl ⟨by rfl, ?hy19x97⟩) (by first | exact trivial | assumption) ?rest19x97
          case hy19x97 =>
            intro W0 hSw
            obtain ⟨s1, s2, s3, s4⟩ := hSw
            go_simp
            first | done | with_reducible rfl
          try simp only [Act.put, List.setIfInBounds_toArray, List.set_cons_zero, List.set_cons_succ]
          refine wpAnyH_take (i := 20) (oi := ({ dst := some 105, op := Go.Op.fieldAddr 46 (Go.Operand.tmp 104) 0, type := 0, pos := "law.go:232", after := #[{ on := 19, ground := Go.Ground.data }, { on := 11, ground := Go.Ground.guard }], guard := some (11, false) } : Oper)) (v := ?v20x98) rfl (by kernel_rfl) (by kernel_rfl) (by kernel_rfl) (fun _ _ _ h => h) (Or.inl ⟨by rfl, ?hy20x98⟩) (by first | exact trivial | assumption) ?rest20x98
          case hy20x98 =>
            intro W0 hSw
            obtain ⟨s1, s2, s3, s4⟩ := hSw
            go_simp
            first | done | with_reducible rfl
          try simp only [Act.put, List.setIfInBounds_toArray, List.set_cons_zero, List.set_cons_succ]
          refine wpAnyH_take (i := 21) (oi := ({ dst := some 106, op := Go.Op.load 23 (Go.Operand.tmp 105), type := 23, pos := "law.go:232", after := #[{ on := 20, ground := Go.Ground.data }, { on := 11, ground := Go.Ground.guard }], guard := some (11, false) } : Oper)) (v := ?v21x99) rfl (by kernel_rfl) (by kernel_rfl) (by kernel_rfl) (fun _ _ _ h => h) (Or.inl ⟨by rfl, ?hy21x99⟩) (by first | exact trivial | assumption) ?rest21x99
          case hy21x99 =>
            intro W0 hSw
            obtain ⟨s1, s2, s3, s4⟩ := hSw
            go_simp
            first | done | with_reducible rfl
          try simp only [Act.put, List.setIfInBounds_toArray, List.set_cons_zero, List.set_cons_succ]
          refine wpAnyH_take (i := 22) (oi := ({ dst := some 107, op := Go.Op.convert 23 9 (Go.Operand.tmp 106), type := 9, pos := "law.go:232", after := #[{ on := 21, ground := Go.Ground.data }, { on := 11, ground := Go.Ground.guard }], guard := some (11, false) } : Oper)) (v := ?v22x100) rfl (by kernel_rfl) (by kernel_rfl) (by kernel_rfl) (fun _ _ _ h => h) (Or.inl ⟨by rfl, ?hy22x100⟩) (by first | exact trivial | assumption) ?rest22x100
          case hy22x100 =>
            intro W0 hSw
            obtain ⟨s1, s2, s3, s4⟩ := hSw
            go_simp
            first | done | with_reducible rfl
          try simp only [Act.put, List.setIfInBounds_toArray, List.set_cons_zero, List.set_cons_succ]
          refine wpAnyH_take (i := 23) (oi := ({ dst := some 108, op := Go.Op.binOp Go.BinOp.eql 9 (Go.Operand.tmp 99) (Go.Operand.tmp 107) 9, type := 4, pos := "law.go:232", after := #[{ on := 14, ground := Go.Ground.data }, { on := 22, ground := Go.Ground.data }, { on := 11, ground := Go.Ground.guard }], guard := some (11, false) } : Oper)) (v := ?v23x101) rfl (by kernel_rfl) (by kernel_rfl) (by kernel_rfl) (fun _ _ _ h => h) (Or.inl ⟨by rfl, ?hy23x101⟩) (by first | exact trivial | assumption) ?rest23x101
          case hy23x101 =>
            intro W0 hSw
            obtain ⟨s1, s2, s3, s4⟩ := hSw
            go_simp
            first | done | with_reducible rfl
          try simp only [Act.put, List.setIfInBounds_toArray, List.set_cons_zero, List.set_cons_succ]
          refine wpAnyH_take (i := 24) (oi := ({ dst := some 109, op := Go.Op.pick (Go.Operand.tmp 96) (Go.Operand.const (Go.Value.bool true)) (Go.Operand.tmp 108), type := 4, pos := "law.go:232", after := #[{ on := 11, ground := Go.Ground.data }, { on := 23, ground := Go.Ground.data }, { on := 8, ground := Go.Ground.guard }], guard := some (8, true) } : Oper)) (v := ?v24x102) rfl (by kernel_rfl) (by kernel_rfl) (by kernel_rfl) (fun _ _ _ h => h) (Or.inl ⟨by rfl, ?hy24x102⟩) (by first | exact trivial | assumption) ?rest24x102
          case hy24x102 =>
            intro W0 hSw
            obtain ⟨s1, s2, s3, s4⟩ := hSw
            go_simp
            first | done | with_reducible rfl
          try simp only [Act.put, List.setIfInBounds_toArray, List.set_cons_zero, List.set_cons_succ]
          refine wpAnyH_take (i := 25) (oi := ({ dst := some 110, op := Go.Op.pick (Go.Operand.tmp 93) (Go.Operand.tmp 109) (Go.Operand.const (Go.Value.bool false)), type := 4, pos := "law.go:232", after := #[{ on := 8, ground := Go.Ground.data }, { on := 24, ground := Go.Ground.data }], guard := none } : Oper)) (v := ?v25x103) rfl (by kernel_rfl) (by kernel_rfl) (by kernel_rfl) (fun _ _ _ h => h) (Or.inl ⟨by rfl, ?hy25x103⟩) (by first | exact trivial | assumption) ?rest25x103
          case hy25x103 =>
            intro W0 hSw
            obtain ⟨s1, s2, s3, s4⟩ := hSw
            go_simp
            first | done | with_reducible rfl
          try simp only [Act.put, List.setIfInBounds_toArray, List.set_cons_zero, List.set_cons_succ]
          refine wpAnyH_take (i := 26) (oi := ({ dst := some 4, op := Go.Op.assign (Go.Operand.tmp 110), type := 4, pos := "law.go:232", after := #[{ on := 25, ground := Go.Ground.data }, { on := 11, ground := Go.Ground.chain }, { on := 0, ground := Go.Ground.phase }, { on := 1, ground := Go.Ground.phase }, { on := 2, ground := Go.Ground.phase }, { on := 3, ground := Go.Ground.phase }, { on := 4, ground := Go.Ground.phase }, { on := 5, ground := Go.Ground.phase }, { on := 6, ground := Go.Ground.phase }, { on := 7, ground := Go.Ground.phase }, { on := 8, ground := Go.Ground.phase }, { on := 9, ground := Go.Ground.phase }, { on := 10, ground := Go.Ground.phase }, { on := 11, ground := Go.Ground.phase }, { on := 12, ground := Go.Ground.phase }, { on := 13, ground := Go.Ground.phase }, { on := 14, ground := Go.Ground.phase }, { on := 15, ground := Go.Ground.phase }, { on := 16, ground := Go.Ground.phase }, { on := 17, ground := Go.Ground.phase }, { on := 18, ground := Go.Ground.phase }, { on := 19, ground := Go.Ground.phase }, { on := 20, ground := Go.Ground.phase }, { on := 21, ground := Go.Ground.phase }, { on := 22, ground := Go.Ground.phase }, { on := 23, ground := Go.Ground.phase }, { on := 24, ground := Go.Ground.phase }, { on := 25, ground := Go.Ground.phase }], guard := none } : Oper)) (v := ?v26x104) rfl (by kernel_rfl) (by kernel_rfl) (by kernel_rfl) (fun _ _ _ h => h) (Or.inl ⟨by rfl, ?hy26x104⟩) (by first | exact trivial | assumption) ?rest26x104
          case hy26x104 =>
            intro W0 hSw
            obtain ⟨s1, s2, s3, s4⟩ := hSw
            go_simp
            first | done | with_reducible rfl
          try simp only [Act.put, List.setIfInBounds_toArray, List.set_cons_zero, List.set_cons_succ]
          refine wpAnyH_done (by kernel_rfl) ?_ _
          go_wp2_with fail
          go_ret
          exact ⟨rfl, HB22.out⟩
      · obtain ⟨m, hm⟩ : ∃ m, K.length = m + 1 := ⟨K.length - 1, by have := List.length_pos_iff.2 hKn; omega⟩
        obtain ⟨⟨k, r⟩, hl⟩ : ∃ x, K.getLast? = some x := by
          cases h : K.getLast? with
          | none => exact absurd (List.getLast?_eq_none_iff.1 h) hKn
          | some x => exact ⟨x, rfl⟩
        obtain ⟨kn, hkn⟩ : ∃ kn, k.length = kn := ⟨_, rfl⟩
        obtain ⟨rn, hrn⟩ : ∃ rn, r.length = rn := ⟨_, rfl⟩
        obtain ⟨S, hS⟩ := ba_of k
        obtain ⟨R, hR⟩ := ba_of r
        have HS := Lib.hid hS
        have HR := Lib.hid hR
        have HKN := Lib.hid hkn
        have HGK := Lib.hid (HMEM.out (k, r) (List.mem_of_getLast? hl))
        have HR2 := Lib.hid (fun W hb => range_y hm hl hkn hrn (HRA.out W hb))
        have HL2 := Lib.hid (fun W hb => last_y hl hkn hrn (HLA.out W hb))
        have hsn : (S.toList != S.toList) = false := by simp
        have hrne : (R.toList != R.toList) = false := by simp
        have hmi : (m : Int) ≤ 150 := by have h1 := HKL.out; omega
        have hmp : (0 : Int) < (m : Int) + 1 := by omega
        have hwm : IntKind.i64.wrap (m : Int) = (m : Int) := by rw [IntKind.wrap_i64]; omega
        have hm1 : (m : Int) < (m : Int) + 1 := by omega
        have HNX : Hid (∀ G' D' P' ps' w5, TaW w w5 G' D' w.heap.size P' ps' (dropK L k) → ∀ v6, v6 = .int .i64 ((i + 1 : Nat) : Int) → TlL w v6 w5) := Lib.hid fun G' D' P' ps' w5 h v6 h6 => ⟨i + 1, G', D', P', ps', _, h6, by omega, Nat.le_trans (dropK_len L k) HLL.out, h⟩
        clear hKn hm hl hkn hrn hS hR hi HRA HLA HMEM
        go_wp2_with (first
          | (go_at_call 17; (with_reducible refine (HR2.out _ (Below.refl _ _)).mono ?_); rintro e w2 ⟨g2, o2, cap2, kA1, kc1, rA1, rc1, rfl, hcp, c1, c2, ho1, ho2, hg, hb⟩
             have HB2 := Lib.hid hb
             have H1 := Lib.hid ho1
             have H2 := Lib.hid ho2
             have HC1 := Lib.hid c1
             have HC2 := Lib.hid c2
             have HG := Lib.hid hg
             have hci : (m : Int) + 1 ≤ (cap2 : Int) := by omega
             clear hb ho1 ho2 c1 c2 hg hcp)
          | (go_at_call 25; (with_reducible refine (HL2.out _ HB2.out).mono ?_); rintro e w3 ⟨kA2, kc2, rA2, rc2, rfl, ho3, ho4, hb⟩
             have hX := alloc_below w3 (.cells #[.slice kA2 kn kc2, .slice rA2 rn rc2] 46)
             have hY := hb.trans (hX.mono hb.size)
             have d1 := (World.cell?_of_block (hY.block g2 HG.out)).trans HC1.out
             have d2 := (World.cell?_of_block (hY.block g2 HG.out)).trans HC2.out
             have hX2 := alloc2_below w3 (.cells #[.slice kA2 kn kc2, .slice rA2 rn rc2] 46) (.cells #[.slice kA1 kn kc1, .slice rA1 rn rc1] 46)
             have hY2 := hb.trans (hX2.mono hb.size)
             obtain ⟨e0, e1⟩ := box2 (((alloc_below (w3.alloc (.cells #[.slice kA2 kn kc2, .slice rA2 rn rc2] 46)) (.cells #[.slice kA1 kn kc1, .slice rA1 rn rc1] 46)).block _ (by simp)).trans (heap_alloc_new w3 (.cells #[.slice kA2 kn kc2, .slice rA2 rn rc2] 46)))
             obtain ⟨y0, y1⟩ := box2 (heap_new2Y w3 (.cells #[.slice kA2 kn kc2, .slice rA2 rn rc2] 46) #[.slice kA1 kn kc1, .slice rA1 rn rc1])
             have cv1 := conv_ownS (ho3.below hX2) S HS.out
             have cv2 := conv_ownS (H1.out.below hY2) S HS.out
             have cv3 := conv_ownS (ho4.below hX2) R HR.out
             have cv4 := conv_ownS (H2.out.below hY2) R HR.out
             have HB15 := Lib.hid (HB2.out.trans (hY2.mono HB2.out.size))
             have HRK := Lib.hid (ho3.below hX2).rd
             clear hX hY hX2 hY2 hb ho3 ho4)
          | (go_at_call 14; refine ((HT.out.below HB15.out).drop k kA2 kn kc2 HKN.out HRK.out).mono ?_; rintro e w5 ⟨G', D', P', ps', A5, n5, c5, rfl, hT5, _, _⟩
             rw [HGK.out]
             have HZ := Lib.hid (HNX.out _ _ _ _ w5 hT5)
             clear hT5)
          | fail)
        go_roundw
        case rel => first | exact HZ.out _ (by go_num) | ((repeat apply Exists.intro); exact ⟨HZ.out _ (by go_num), rfl⟩)
        case measure => simp [intOf]; omega
    · have hlti : ¬ (i : Int) < 150 := by omega
      clear hlt hi
      have HKV := Lib.hid HT.out.kv
      obtain ⟨K, hK⟩ : ∃ K, K = kv (flat ps) := ⟨_, rfl⟩
      have HRA : Hid (∀ W, Below wr.heap.size wr W → Calls Try.prog 17 #[.pointer (some ⟨w.heap.size, 0, none⟩), .slice none 0 0, .slice none 0 0, .int .i64 150] W (RgT W K)) := Lib.hid fun W hb => by
        have h := range_any (HT.out.below hb).tb none none [] [] 0 0 0 0 150 rfl rfl (fun hn => absurd rfl hn) (fun hn => absurd rfl hn)
        rw [rangeL_all, show (150 : Int).toNat = 150 from rfl, kv_take_all (by have h1 := congrArg List.length HKV.out; simp [kv] at h1; have h2 := HLL.out; omega), ← hK] at h
        exact h
      have HLA : Hid (∀ W, Below wr.heap.size wr W → Calls Try.prog 25 #[.pointer (some ⟨w.heap.size, 0, none⟩), .slice none 0 0] W (LastT W K)) := Lib.hid fun W hb => by
        have h := last_nil (HT.out.below hb).tb
        rw [← hK] at h
        exact h
      have HBW := Lib.hid HT.out.bel
      have HKL : Hid (K.length ≤ 150) := Lib.hid (by rw [hK, HKV.out]; exact HLL.out)
      clear hK
      by_cases hKn : K = []
      · have HR2 := Lib.hid (fun W hb => range_n hKn (HRA.out W hb))
        have HL2 := Lib.hid (fun W hb => last_n hKn (HLA.out W hb))
        clear hKn
        go_wp2_with (first
          | (go_at_call 17; refine (HR2.out _ (Below.refl _ _)).mono ?_; rintro e w20 ⟨A20, c20, rfl, hb⟩
             have HB20 := Lib.hid hb
             clear hb)
          | (go_at_call 25; refine (HL2.out _ HB20.out).mono ?_; rintro e w21 ⟨rfl, hb⟩
             have HB21 := Lib.hid (HB20.out.trans (hb.mono HB20.out.size))
             clear hb)
          | fail)
        have HB22 := Lib.hid (HBW.out.trans ((HB21.out.trans (((alloc_below w21 (.cells #[.slice none 0 0, .slice none 0 0] 46)).trans ((drew_below _).mono (by simp))).mono HB21.out.size)).mono HBW.out.size))
        refine wp_region_held_drew (S := fun _ => True) (by kernel_rfl) trivial (fun _ => ?_)
        refine wpAnyH_ready (rs := [0]) (by kernel_rfl) (by simp) ?_
        refine AllReadyH.cons (o := ({ dst := some 85, op := Go.Op.call { callee := Go.Callee.value (Go.Operand.func 9), args := #[], argTypes := #[] }, type := 4, pos := "law.go:232", after := #[], guard := none } : Oper)) rfl (fun K0 hK0 => ?_) AllReadyH.nil
        go_simp
        go_at_call 9
        refine (AL.out _).mono ?_
        rintro e w22 ⟨rfl, hb⟩
        have HB22 := Lib.hid (HB22.out.trans (hb.mono HB22.out.size))
        clear hb
        try go_wp2_with fail
        refine hK0.out _ _ trivial (fun _ => ?_)
        clear hK0 K0
        try simp only [Act.put, List.setIfInBounds_toArray, List.set_cons_zero, List.set_cons_succ]
        refine wpAnyH_take (i := 1) (oi := ({ dst := some 86, op := Go.Op.move (Go.Operand.tmp 85), type := 4, pos := "law.go:232", after := #[{ on := 0, ground := Go.Ground.data }, { on := 0, ground := Go.Ground.chain }], guard := none } : Oper)) (v := ?v1x1) rfl (by kernel_rfl) (by kernel_rfl) (by kernel_rfl) (fun _ _ _ h => h) (Or.inl ⟨by rfl, ?hy1x1⟩) (by first | exact trivial | assumption) ?rest1x1
        case hy1x1 =>
          intro W0 hSw
          (try dsimp only at hSw)
          go_simp
          first | done | with_reducible rfl
        try simp only [Act.put, List.setIfInBounds_toArray, List.set_cons_zero, List.set_cons_succ]
        refine wpAnyH_take (i := 2) (oi := ({ dst := some 87, op := Go.Op.move (Go.Operand.tmp 15), type := 4, pos := "law.go:232", after := #[{ on := 1, ground := Go.Ground.guard }], guard := some (1, true) } : Oper)) (v := ?v2x2) rfl (by kernel_rfl) (by kernel_rfl) (by kernel_rfl) (fun _ _ _ h => h) (Or.inl ⟨by rfl, ?hy2x2⟩) (by first | exact trivial | assumption) ?rest2x2
        case hy2x2 =>
          intro W0 hSw
          (try dsimp only at hSw)
          go_simp
          first | done | with_reducible rfl
        try simp only [Act.put, List.setIfInBounds_toArray, List.set_cons_zero, List.set_cons_succ]
        refine wpAnyH_take (i := 3) (oi := ({ dst := some 88, op := Go.Op.move (Go.Operand.tmp 13), type := 40, pos := "law.go:232", after := #[{ on := 1, ground := Go.Ground.guard }], guard := some (1, true) } : Oper)) (v := ?v3x3) rfl (by kernel_rfl) (by kernel_rfl) (by kernel_rfl) (fun _ _ _ h => h) (Or.inl ⟨by rfl, ?hy3x3⟩) (by first | exact trivial | assumption) ?rest3x3
        case hy3x3 =>
          intro W0 hSw
          (try dsimp only at hSw)
          go_simp
          first | done | with_reducible rfl
        try simp only [Act.put, List.setIfInBounds_toArray, List.set_cons_zero, List.set_cons_succ]
        refine wpAnyH_take (i := 4) (oi := ({ dst := some 89, op := Go.Op.call { callee := Go.Callee.builtin Go.Builtin.len, args := #[Go.Operand.tmp 88], argTypes := #[40] }, type := 3, pos := "law.go:232", after := #[{ on := 3, ground := Go.Ground.data }, { on := 1, ground := Go.Ground.guard }], guard := some (1, true) } : Oper)) (v := ?v4x4) rfl (by kernel_rfl) (by kernel_rfl) (by kernel_rfl) (fun _ _ _ h => h) (Or.inl ⟨by rfl, ?hy4x4⟩) (by first | exact trivial | assumption) ?rest4x4
        case hy4x4 =>
          intro W0 hSw
          (try dsimp only at hSw)
          go_simp
          first | done | with_reducible rfl
        try simp only [Act.put, List.setIfInBounds_toArray, List.set_cons_zero, List.set_cons_succ]
        refine wpAnyH_take (i := 5) (oi := ({ dst := some 90, op := Go.Op.binOp Go.BinOp.gtr 3 (Go.Operand.tmp 89) (Go.Operand.const (Go.Value.int Go.IntKind.i64 0)) 3, type := 4, pos := "law.go:232", after := #[{ on := 4, ground := Go.Ground.data }, { on := 1, ground := Go.Ground.guard }], guard := some (1, true) } : Oper)) (v := ?v5x5) rfl (by kernel_rfl) (by kernel_rfl) (by kernel_rfl) (fun _ _ _ h => h) (Or.inl ⟨by rfl, ?hy5x5⟩) (by first | exact trivial | assumption) ?rest5x5
        case hy5x5 =>
          intro W0 hSw
          (try dsimp only at hSw)
          go_simp
          first | done | with_reducible rfl
        try simp only [Act.put, List.setIfInBounds_toArray, List.set_cons_zero, List.set_cons_succ]
        refine wpAnyH_take (i := 6) (oi := ({ dst := some 91, op := Go.Op.binOp Go.BinOp.eql 4 (Go.Operand.tmp 87) (Go.Operand.tmp 90) 4, type := 4, pos := "law.go:232", after := #[{ on := 2, ground := Go.Ground.data }, { on := 5, ground := Go.Ground.data }, { on := 1, ground := Go.Ground.guard }], guard := some (1, true) } : Oper)) (v := ?v6x6) rfl (by kernel_rfl) (by kernel_rfl) (by kernel_rfl) (fun _ _ _ h => h) (Or.inl ⟨by rfl, ?hy6x6⟩) (by first | exact trivial | assumption) ?rest6x6
        case hy6x6 =>
          intro W0 hSw
          (try dsimp only at hSw)
          go_simp
          first | done | with_reducible rfl
        try simp only [Act.put, List.setIfInBounds_toArray, List.set_cons_zero, List.set_cons_succ]
        refine wpAnyH_take (i := 7) (oi := ({ dst := some 92, op := Go.Op.pick (Go.Operand.tmp 86) (Go.Operand.tmp 91) (Go.Operand.const (Go.Value.bool false)), type := 4, pos := "law.go:232", after := #[{ on := 1, ground := Go.Ground.data }, { on := 6, ground := Go.Ground.data }], guard := none } : Oper)) (v := ?v7x7) rfl (by kernel_rfl) (by kernel_rfl) (by kernel_rfl) (fun _ _ _ h => h) (Or.inl ⟨by rfl, ?hy7x7⟩) (by first | exact trivial | assumption) ?rest7x7
        case hy7x7 =>
          intro W0 hSw
          (try dsimp only at hSw)
          go_simp
          first | done | with_reducible rfl
        try simp only [Act.put, List.setIfInBounds_toArray, List.set_cons_zero, List.set_cons_succ]
        refine wpAnyH_take (i := 8) (oi := ({ dst := some 93, op := Go.Op.move (Go.Operand.tmp 92), type := 4, pos := "law.go:232", after := #[{ on := 7, ground := Go.Ground.data }, { on := 1, ground := Go.Ground.chain }], guard := none } : Oper)) (v := ?v8x8) rfl (by kernel_rfl) (by kernel_rfl) (by kernel_rfl) (fun _ _ _ h => h) (Or.inl ⟨by rfl, ?hy8x8⟩) (by first | exact trivial | assumption) ?rest8x8
        case hy8x8 =>
          intro W0 hSw
          (try dsimp only at hSw)
          go_simp
          first | done | with_reducible rfl
        try simp only [Act.put, List.setIfInBounds_toArray, List.set_cons_zero, List.set_cons_succ]
        refine wpAnyH_take (i := 9) (oi := ({ dst := some 94, op := Go.Op.move (Go.Operand.tmp 15), type := 4, pos := "law.go:232", after := #[{ on := 8, ground := Go.Ground.guard }], guard := some (8, true) } : Oper)) (v := ?v9x9) rfl (by kernel_rfl) (by kernel_rfl) (by kernel_rfl) (fun _ _ _ h => h) (Or.inl ⟨by rfl, ?hy9x9⟩) (by first | exact trivial | assumption) ?rest9x9
        case hy9x9 =>
          intro W0 hSw
          (try dsimp only at hSw)
          go_simp
          first | done | with_reducible rfl
        try simp only [Act.put, List.setIfInBounds_toArray, List.set_cons_zero, List.set_cons_succ]
        refine wpAnyH_take (i := 10) (oi := ({ dst := some 95, op := Go.Op.unOp Go.UnOp.not 4 (Go.Operand.tmp 94), type := 4, pos := "law.go:232", after := #[{ on := 9, ground := Go.Ground.data }, { on := 8, ground := Go.Ground.guard }], guard := some (8, true) } : Oper)) (v := ?v10x10) rfl (by kernel_rfl) (by kernel_rfl) (by kernel_rfl) (fun _ _ _ h => h) (Or.inl ⟨by rfl, ?hy10x10⟩) (by first | exact trivial | assumption) ?rest10x10
        case hy10x10 =>
          intro W0 hSw
          (try dsimp only at hSw)
          go_simp
          first | done | with_reducible rfl
        try simp only [Act.put, List.setIfInBounds_toArray, List.set_cons_zero, List.set_cons_succ]
        refine wpAnyH_take (i := 11) (oi := ({ dst := some 96, op := Go.Op.move (Go.Operand.tmp 95), type := 4, pos := "law.go:232", after := #[{ on := 10, ground := Go.Ground.data }, { on := 8, ground := Go.Ground.chain }, { on := 8, ground := Go.Ground.guard }], guard := some (8, true) } : Oper)) (v := ?v11x11) rfl (by kernel_rfl) (by kernel_rfl) (by kernel_rfl) (fun _ _ _ h => h) (Or.inl ⟨by rfl, ?hy11x11⟩) (by first | exact trivial | assumption) ?rest11x11
        case hy11x11 =>
          intro W0 hSw
          (try dsimp only at hSw)
          go_simp
          first | done | with_reducible rfl
        try simp only [Act.put, List.setIfInBounds_toArray, List.set_cons_zero, List.set_cons_succ]
        refine wpAnyH_take (i := 12) (oi := ({ dst := some 97, op := Go.Op.fieldAddr 46 (Go.Operand.tmp 14) 0, type := 0, pos := "law.go:232", after := #[{ on := 11, ground := Go.Ground.guard }], guard := some (11, false) } : Oper)) (v := undef) rfl (by kernel_rfl) (by kernel_rfl) (by kernel_rfl) (fun _ _ _ h => h) (Or.inr ⟨by rfl, rfl⟩) (by first | exact trivial | assumption) ?_
        try simp only [Act.put, List.setIfInBounds_toArray, List.set_cons_zero, List.set_cons_succ]
        refine wpAnyH_take (i := 13) (oi := ({ dst := some 98, op := Go.Op.load 23 (Go.Operand.tmp 97), type := 23, pos := "law.go:232", after := #[{ on := 12, ground := Go.Ground.data }, { on := 11, ground := Go.Ground.guard }], guard := some (11, false) } : Oper)) (v := undef) rfl (by kernel_rfl) (by kernel_rfl) (by kernel_rfl) (fun _ _ _ h => h) (Or.inr ⟨by rfl, rfl⟩) (by first | exact trivial | assumption) ?_
        try simp only [Act.put, List.setIfInBounds_toArray, List.set_cons_zero, List.set_cons_succ]
        refine wpAnyH_take (i := 14) (oi := ({ dst := some 99, op := Go.Op.convert 23 9 (Go.Operand.tmp 98), type := 9, pos := "law.go:232", after := #[{ on := 13, ground := Go.Ground.data }, { on := 11, ground := Go.Ground.guard }], guard := some (11, false) } : Oper)) (v := undef) rfl (by kernel_rfl) (by kernel_rfl) (by kernel_rfl) (fun _ _ _ h => h) (Or.inr ⟨by rfl, rfl⟩) (by first | exact trivial | assumption) ?_
        try simp only [Act.put, List.setIfInBounds_toArray, List.set_cons_zero, List.set_cons_succ]
        refine wpAnyH_take (i := 15) (oi := ({ dst := some 100, op := Go.Op.move (Go.Operand.tmp 13), type := 40, pos := "law.go:232", after := #[{ on := 11, ground := Go.Ground.guard }], guard := some (11, false) } : Oper)) (v := undef) rfl (by kernel_rfl) (by kernel_rfl) (by kernel_rfl) (fun _ _ _ h => h) (Or.inr ⟨by rfl, rfl⟩) (by first | exact trivial | assumption) ?_
        try simp only [Act.put, List.setIfInBounds_toArray, List.set_cons_zero, List.set_cons_succ]
        refine wpAnyH_take (i := 16) (oi := ({ dst := some 101, op := Go.Op.move (Go.Operand.tmp 13), type := 40, pos := "law.go:232", after := #[{ on := 11, ground := Go.Ground.guard }], guard := some (11, false) } : Oper)) (v := undef) rfl (by kernel_rfl) (by kernel_rfl) (by kernel_rfl) (fun _ _ _ h => h) (Or.inr ⟨by rfl, rfl⟩) (by first | exact trivial | assumption) ?_
        try simp only [Act.put, List.setIfInBounds_toArray, List.set_cons_zero, List.set_cons_succ]
        refine wpAnyH_take (i := 17) (oi := ({ dst := some 102, op := Go.Op.call { callee := Go.Callee.builtin Go.Builtin.len, args := #[Go.Operand.tmp 101], argTypes := #[40] }, type := 3, pos := "law.go:232", after := #[{ on := 16, ground := Go.Ground.data }, { on := 11, ground := Go.Ground.guard }], guard := some (11, false) } : Oper)) (v := undef) rfl (by kernel_rfl) (by kernel_rfl) (by kernel_rfl) (fun _ _ _ h => h) (Or.inr ⟨by rfl, rfl⟩) (by first | exact trivial | assumption) ?_
        try simp only [Act.put, List.setIfInBounds_toArray, List.set_cons_zero, List.set_cons_succ]
        refine wpAnyH_take (i := 18) (oi := ({ dst := some 103, op := Go.Op.binOp Go.BinOp.sub 3 (Go.Operand.tmp 102) (Go.Operand.const (Go.Value.int Go.IntKind.i64 1)) 3, type := 3, pos := "law.go:232", after := #[{ on := 17, ground := Go.Ground.data }, { on := 11, ground := Go.Ground.guard }], guard := some (11, false) } : Oper)) (v := undef) rfl (by kernel_rfl) (by kernel_rfl) (by kernel_rfl) (fun _ _ _ h => h) (Or.inr ⟨by rfl, rfl⟩) (by first | exact trivial | assumption) ?_
        try simp only [Act.put, List.setIfInBounds_toArray, List.set_cons_zero, List.set_cons_succ]
        refine wpAnyH_take (i := 19) (oi := ({ dst := some 104, op := Go.Op.indexAddr 40 (Go.Operand.tmp 100) (Go.Operand.tmp 103), type := 0, pos := "law.go:232", after := #[{ on := 15, ground := Go.Ground.data }, { on := 18, ground := Go.Ground.data }, { on := 11, ground := Go.Ground.guard }], guard := some (11, false) } : Oper)) (v := undef) rfl (by kernel_rfl) (by kernel_rfl) (by kernel_rfl) (fun _ _ _ h => h) (Or.inr ⟨by rfl, rfl⟩) (by first | exact trivial | assumption) ?_
        try simp only [Act.put, List.setIfInBounds_toArray, List.set_cons_zero, List.set_cons_succ]
        refine wpAnyH_take (i := 20) (oi := ({ dst := some 105, op := Go.Op.fieldAddr 46 (Go.Operand.tmp 104) 0, type := 0, pos := "law.go:232", after := #[{ on := 19, ground := Go.Ground.data }, { on := 11, ground := Go.Ground.guard }], guard := some (11, false) } : Oper)) (v := undef) rfl (by kernel_rfl) (by kernel_rfl) (by kernel_rfl) (fun _ _ _ h => h) (Or.inr ⟨by rfl, rfl⟩) (by first | exact trivial | assumption) ?_
        try simp only [Act.put, List.setIfInBounds_toArray, List.set_cons_zero, List.set_cons_succ]
        refine wpAnyH_take (i := 21) (oi := ({ dst := some 106, op := Go.Op.load 23 (Go.Operand.tmp 105), type := 23, pos := "law.go:232", after := #[{ on := 20, ground := Go.Ground.data }, { on := 11, ground := Go.Ground.guard }], guard := some (11, false) } : Oper)) (v := undef) rfl (by kernel_rfl) (by kernel_rfl) (by kernel_rfl) (fun _ _ _ h => h) (Or.inr ⟨by rfl, rfl⟩) (by first | exact trivial | assumption) ?_
        try simp only [Act.put, List.setIfInBounds_toArray, List.set_cons_zero, List.set_cons_succ]
        refine wpAnyH_take (i := 22) (oi := ({ dst := some 107, op := Go.Op.convert 23 9 (Go.Operand.tmp 106), type := 9, pos := "law.go:232", after := #[{ on := 21, ground := Go.Ground.data }, { on := 11, ground := Go.Ground.guard }], guard := some (11, false) } : Oper)) (v := undef) rfl (by kernel_rfl) (by kernel_rfl) (by kernel_rfl) (fun _ _ _ h => h) (Or.inr ⟨by rfl, rfl⟩) (by first | exact trivial | assumption) ?_
        try simp only [Act.put, List.setIfInBounds_toArray, List.set_cons_zero, List.set_cons_succ]
        refine wpAnyH_take (i := 23) (oi := ({ dst := some 108, op := Go.Op.binOp Go.BinOp.eql 9 (Go.Operand.tmp 99) (Go.Operand.tmp 107) 9, type := 4, pos := "law.go:232", after := #[{ on := 14, ground := Go.Ground.data }, { on := 22, ground := Go.Ground.data }, { on := 11, ground := Go.Ground.guard }], guard := some (11, false) } : Oper)) (v := undef) rfl (by kernel_rfl) (by kernel_rfl) (by kernel_rfl) (fun _ _ _ h => h) (Or.inr ⟨by rfl, rfl⟩) (by first | exact trivial | assumption) ?_
        try simp only [Act.put, List.setIfInBounds_toArray, List.set_cons_zero, List.set_cons_succ]
        refine wpAnyH_take (i := 24) (oi := ({ dst := some 109, op := Go.Op.pick (Go.Operand.tmp 96) (Go.Operand.const (Go.Value.bool true)) (Go.Operand.tmp 108), type := 4, pos := "law.go:232", after := #[{ on := 11, ground := Go.Ground.data }, { on := 23, ground := Go.Ground.data }, { on := 8, ground := Go.Ground.guard }], guard := some (8, true) } : Oper)) (v := ?v24x24) rfl (by kernel_rfl) (by kernel_rfl) (by kernel_rfl) (fun _ _ _ h => h) (Or.inl ⟨by rfl, ?hy24x24⟩) (by first | exact trivial | assumption) ?rest24x24
        case hy24x24 =>
          intro W0 hSw
          (try dsimp only at hSw)
          go_simp
          first | done | with_reducible rfl
        try simp only [Act.put, List.setIfInBounds_toArray, List.set_cons_zero, List.set_cons_succ]
        refine wpAnyH_take (i := 25) (oi := ({ dst := some 110, op := Go.Op.pick (Go.Operand.tmp 93) (Go.Operand.tmp 109) (Go.Operand.const (Go.Value.bool false)), type := 4, pos := "law.go:232", after := #[{ on := 8, ground := Go.Ground.data }, { on := 24, ground := Go.Ground.data }], guard := none } : Oper)) (v := ?v25x25) rfl (by kernel_rfl) (by kernel_rfl) (by kernel_rfl) (fun _ _ _ h => h) (Or.inl ⟨by rfl, ?hy25x25⟩) (by first | exact trivial | assumption) ?rest25x25
        case hy25x25 =>
          intro W0 hSw
          (try dsimp only at hSw)
          go_simp
          first | done | with_reducible rfl
        try simp only [Act.put, List.setIfInBounds_toArray, List.set_cons_zero, List.set_cons_succ]
        refine wpAnyH_take (i := 26) (oi := ({ dst := some 4, op := Go.Op.assign (Go.Operand.tmp 110), type := 4, pos := "law.go:232", after := #[{ on := 25, ground := Go.Ground.data }, { on := 11, ground := Go.Ground.chain }, { on := 0, ground := Go.Ground.phase }, { on := 1, ground := Go.Ground.phase }, { on := 2, ground := Go.Ground.phase }, { on := 3, ground := Go.Ground.phase }, { on := 4, ground := Go.Ground.phase }, { on := 5, ground := Go.Ground.phase }, { on := 6, ground := Go.Ground.phase }, { on := 7, ground := Go.Ground.phase }, { on := 8, ground := Go.Ground.phase }, { on := 9, ground := Go.Ground.phase }, { on := 10, ground := Go.Ground.phase }, { on := 11, ground := Go.Ground.phase }, { on := 12, ground := Go.Ground.phase }, { on := 13, ground := Go.Ground.phase }, { on := 14, ground := Go.Ground.phase }, { on := 15, ground := Go.Ground.phase }, { on := 16, ground := Go.Ground.phase }, { on := 17, ground := Go.Ground.phase }, { on := 18, ground := Go.Ground.phase }, { on := 19, ground := Go.Ground.phase }, { on := 20, ground := Go.Ground.phase }, { on := 21, ground := Go.Ground.phase }, { on := 22, ground := Go.Ground.phase }, { on := 23, ground := Go.Ground.phase }, { on := 24, ground := Go.Ground.phase }, { on := 25, ground := Go.Ground.phase }], guard := none } : Oper)) (v := ?v26x26) rfl (by kernel_rfl) (by kernel_rfl) (by kernel_rfl) (fun _ _ _ h => h) (Or.inl ⟨by rfl, ?hy26x26⟩) (by first | exact trivial | assumption) ?rest26x26
        case hy26x26 =>
          intro W0 hSw
          (try dsimp only at hSw)
          go_simp
          first | done | with_reducible rfl
        try simp only [Act.put, List.setIfInBounds_toArray, List.set_cons_zero, List.set_cons_succ]
        refine wpAnyH_done (by kernel_rfl) ?_ _
        go_wp2_with fail
        go_ret
        exact ⟨rfl, HB22.out⟩
      · obtain ⟨m, hm⟩ : ∃ m, K.length = m + 1 := ⟨K.length - 1, by have := List.length_pos_iff.2 hKn; omega⟩
        obtain ⟨⟨k, r⟩, hl⟩ : ∃ x, K.getLast? = some x := by
          cases h : K.getLast? with
          | none => exact absurd (List.getLast?_eq_none_iff.1 h) hKn
          | some x => exact ⟨x, rfl⟩
        obtain ⟨kn, hkn⟩ : ∃ kn, k.length = kn := ⟨_, rfl⟩
        obtain ⟨rn, hrn⟩ : ∃ rn, r.length = rn := ⟨_, rfl⟩
        obtain ⟨S, hS⟩ := ba_of k
        have HS := Lib.hid hS
        have HR2 := Lib.hid (fun W hb => range_y hm hl hkn hrn (HRA.out W hb))
        have HL2 := Lib.hid (fun W hb => last_y hl hkn hrn (HLA.out W hb))
        have hse : (S.toList == S.toList) = true := by simp
        have hmi : (m : Int) ≤ 150 := by have h1 := HKL.out; omega
        clear hKn hm hl hkn hrn hS
        go_wp2_with (first
          | (go_at_call 17; refine (HR2.out _ (Below.refl _ _)).mono ?_; rintro e w20 ⟨g20, o20, cap20, kA1, kc1, rA1, rc1, rfl, hcp, c1, c2, ho1, ho2, hg, hb⟩
             have HB20 := Lib.hid hb
             have H1 := Lib.hid ho1
             have HC1 := Lib.hid c1
             have HG := Lib.hid hg
             have hci : (m : Int) + 1 ≤ (cap20 : Int) := by omega
             clear hb ho1 ho2 c1 c2 hg hcp)
          | (go_at_call 25; refine (HL2.out _ HB20.out).mono ?_; rintro e w21 ⟨kA2, kc2, rA2, rc2, rfl, ho3, ho4, hb⟩
             have HB21 := Lib.hid hb
             have H3 := Lib.hid ho3
             clear hb ho3 ho4)
          | fail)
        have HX := Lib.hid ((alloc_below w21 (.cells #[.slice kA2 kn kc2, .slice rA2 rn rc2] 46)).trans ((drew_below _).mono (by simp)))
        have HBE := Lib.hid (heap_alloc_new w21 (.cells #[.slice kA2 kn kc2, .slice rA2 rn rc2] 46))
        have hwm : IntKind.i64.wrap (m : Int) = (m : Int) := by rw [IntKind.wrap_i64]; omega
        have hm1 : (m : Int) < (m : Int) + 1 := by omega
        refine wp_region_held_drew (S := fun _ => True) (by kernel_rfl) trivial (fun _ => ?_)
        refine wpAnyH_ready (rs := [0]) (by kernel_rfl) (by simp) ?_
        refine AllReadyH.cons (o := ({ dst := some 85, op := Go.Op.call { callee := Go.Callee.value (Go.Operand.func 9), args := #[], argTypes := #[] }, type := 4, pos := "law.go:232", after := #[], guard := none } : Oper)) rfl (fun K0 hK0 => ?_) AllReadyH.nil
        go_simp
        go_at_call 9
        refine (AL.out _).mono ?_
        rintro e w22 ⟨rfl, hb⟩
        have hX := HX.out.trans (hb.mono HX.out.size)
        have hY := HB21.out.trans (hX.mono HB21.out.size)
        have HB22 := Lib.hid (HBW.out.trans ((HB20.out.trans (hY.mono HB20.out.size)).mono HBW.out.size))
        have hSS : (fun W => W.cell? ⟨w21.heap.size, 0, none⟩ = some (.slice kA2 kn kc2) ∧ W.cell? ⟨g20, o20 + m * 2, none⟩ = some (.slice kA1 kn kc1) ∧ (convert 23 9 (.slice kA2 kn kc2)).run Try.prog W = .ok (.string S) W ∧ (convert 23 9 (.slice kA1 kn kc1)).run Try.prog W = .ok (.string S) W) w22 := ⟨(box2 (((hb.trans (Below.refl _ _)).block _ (by simp)).trans HBE.out)).1, (World.cell?_of_block (hY.block g20 HG.out)).trans HC1.out, conv_ownS (H3.out.below hX) S HS.out, conv_ownS (H1.out.below hY) S HS.out⟩
        clear hb hX hY
        try go_wp2_with fail
        refine hK0.out _ _ trivial (fun _ => ?_)
        clear hK0 K0
        try simp only [Act.put, List.setIfInBounds_toArray, List.set_cons_zero, List.set_cons_succ]
        refine wpAnyH_mono (S' := (fun W => W.cell? ⟨w21.heap.size, 0, none⟩ = some (.slice kA2 kn kc2) ∧ W.cell? ⟨g20, o20 + m * 2, none⟩ = some (.slice kA1 kn kc1) ∧ (convert 23 9 (.slice kA2 kn kc2)).run Try.prog W = .ok (.string S) W ∧ (convert 23 9 (.slice kA1 kn kc1)).run Try.prog W = .ok (.string S) W)) (fun _ _ => trivial) ?_
        refine wpAnyH_take (i := 1) (oi := ({ dst := some 86, op := Go.Op.move (Go.Operand.tmp 85), type := 4, pos := "law.go:232", after := #[{ on := 0, ground := Go.Ground.data }, { on := 0, ground := Go.Ground.chain }], guard := none } : Oper)) (v := ?v1x27) rfl (by kernel_rfl) (by kernel_rfl) (by kernel_rfl) (fun _ _ _ h => h) (Or.inl ⟨by rfl, ?hy1x27⟩) (by first | exact trivial | assumption) ?rest1x27
        case hy1x27 =>
          intro W0 hSw
          obtain ⟨s1, s2, s3, s4⟩ := hSw
          go_simp
          first | done | with_reducible rfl
        try simp only [Act.put, List.setIfInBounds_toArray, List.set_cons_zero, List.set_cons_succ]
        refine wpAnyH_take (i := 2) (oi := ({ dst := some 87, op := Go.Op.move (Go.Operand.tmp 15), type := 4, pos := "law.go:232", after := #[{ on := 1, ground := Go.Ground.guard }], guard := some (1, true) } : Oper)) (v := ?v2x28) rfl (by kernel_rfl) (by kernel_rfl) (by kernel_rfl) (fun _ _ _ h => h) (Or.inl ⟨by rfl, ?hy2x28⟩) (by first | exact trivial | assumption) ?rest2x28
        case hy2x28 =>
          intro W0 hSw
          obtain ⟨s1, s2, s3, s4⟩ := hSw
          go_simp
          first | done | with_reducible rfl
        try simp only [Act.put, List.setIfInBounds_toArray, List.set_cons_zero, List.set_cons_succ]
        refine wpAnyH_take (i := 3) (oi := ({ dst := some 88, op := Go.Op.move (Go.Operand.tmp 13), type := 40, pos := "law.go:232", after := #[{ on := 1, ground := Go.Ground.guard }], guard := some (1, true) } : Oper)) (v := ?v3x29) rfl (by kernel_rfl) (by kernel_rfl) (by kernel_rfl) (fun _ _ _ h => h) (Or.inl ⟨by rfl, ?hy3x29⟩) (by first | exact trivial | assumption) ?rest3x29
        case hy3x29 =>
          intro W0 hSw
          obtain ⟨s1, s2, s3, s4⟩ := hSw
          go_simp
          first | done | with_reducible rfl
        try simp only [Act.put, List.setIfInBounds_toArray, List.set_cons_zero, List.set_cons_succ]
        refine wpAnyH_take (i := 4) (oi := ({ dst := some 89, op := Go.Op.call { callee := Go.Callee.builtin Go.Builtin.len, args := #[Go.Operand.tmp 88], argTypes := #[40] }, type := 3, pos := "law.go:232", after := #[{ on := 3, ground := Go.Ground.data }, { on := 1, ground := Go.Ground.guard }], guard := some (1, true) } : Oper)) (v := ?v4x30) rfl (by kernel_rfl) (by kernel_rfl) (by kernel_rfl) (fun _ _ _ h => h) (Or.inl ⟨by rfl, ?hy4x30⟩) (by first | exact trivial | assumption) ?rest4x30
        case hy4x30 =>
          intro W0 hSw
          obtain ⟨s1, s2, s3, s4⟩ := hSw
          go_simp
          first | done | with_reducible rfl
        try simp only [Act.put, List.setIfInBounds_toArray, List.set_cons_zero, List.set_cons_succ]
        refine wpAnyH_take (i := 5) (oi := ({ dst := some 90, op := Go.Op.binOp Go.BinOp.gtr 3 (Go.Operand.tmp 89) (Go.Operand.const (Go.Value.int Go.IntKind.i64 0)) 3, type := 4, pos := "law.go:232", after := #[{ on := 4, ground := Go.Ground.data }, { on := 1, ground := Go.Ground.guard }], guard := some (1, true) } : Oper)) (v := ?v5x31) rfl (by kernel_rfl) (by kernel_rfl) (by kernel_rfl) (fun _ _ _ h => h) (Or.inl ⟨by rfl, ?hy5x31⟩) (by first | exact trivial | assumption) ?rest5x31
        case hy5x31 =>
          intro W0 hSw
          obtain ⟨s1, s2, s3, s4⟩ := hSw
          go_simp
          first | done | with_reducible rfl
        try simp only [Act.put, List.setIfInBounds_toArray, List.set_cons_zero, List.set_cons_succ]
        refine wpAnyH_take (i := 6) (oi := ({ dst := some 91, op := Go.Op.binOp Go.BinOp.eql 4 (Go.Operand.tmp 87) (Go.Operand.tmp 90) 4, type := 4, pos := "law.go:232", after := #[{ on := 2, ground := Go.Ground.data }, { on := 5, ground := Go.Ground.data }, { on := 1, ground := Go.Ground.guard }], guard := some (1, true) } : Oper)) (v := ?v6x32) rfl (by kernel_rfl) (by kernel_rfl) (by kernel_rfl) (fun _ _ _ h => h) (Or.inl ⟨by rfl, ?hy6x32⟩) (by first | exact trivial | assumption) ?rest6x32
        case hy6x32 =>
          intro W0 hSw
          obtain ⟨s1, s2, s3, s4⟩ := hSw
          go_simp
          first | done | with_reducible rfl
        try simp only [Act.put, List.setIfInBounds_toArray, List.set_cons_zero, List.set_cons_succ]
        refine wpAnyH_take (i := 7) (oi := ({ dst := some 92, op := Go.Op.pick (Go.Operand.tmp 86) (Go.Operand.tmp 91) (Go.Operand.const (Go.Value.bool false)), type := 4, pos := "law.go:232", after := #[{ on := 1, ground := Go.Ground.data }, { on := 6, ground := Go.Ground.data }], guard := none } : Oper)) (v := ?v7x33) rfl (by kernel_rfl) (by kernel_rfl) (by kernel_rfl) (fun _ _ _ h => h) (Or.inl ⟨by rfl, ?hy7x33⟩) (by first | exact trivial | assumption) ?rest7x33
        case hy7x33 =>
          intro W0 hSw
          obtain ⟨s1, s2, s3, s4⟩ := hSw
          go_simp
          first | done | with_reducible rfl
        try simp only [Act.put, List.setIfInBounds_toArray, List.set_cons_zero, List.set_cons_succ]
        refine wpAnyH_take (i := 8) (oi := ({ dst := some 93, op := Go.Op.move (Go.Operand.tmp 92), type := 4, pos := "law.go:232", after := #[{ on := 7, ground := Go.Ground.data }, { on := 1, ground := Go.Ground.chain }], guard := none } : Oper)) (v := ?v8x34) rfl (by kernel_rfl) (by kernel_rfl) (by kernel_rfl) (fun _ _ _ h => h) (Or.inl ⟨by rfl, ?hy8x34⟩) (by first | exact trivial | assumption) ?rest8x34
        case hy8x34 =>
          intro W0 hSw
          obtain ⟨s1, s2, s3, s4⟩ := hSw
          go_simp
          first | done | with_reducible rfl
        try simp only [Act.put, List.setIfInBounds_toArray, List.set_cons_zero, List.set_cons_succ]
        refine wpAnyH_take (i := 9) (oi := ({ dst := some 94, op := Go.Op.move (Go.Operand.tmp 15), type := 4, pos := "law.go:232", after := #[{ on := 8, ground := Go.Ground.guard }], guard := some (8, true) } : Oper)) (v := ?v9x35) rfl (by kernel_rfl) (by kernel_rfl) (by kernel_rfl) (fun _ _ _ h => h) (Or.inl ⟨by rfl, ?hy9x35⟩) (by first | exact trivial | assumption) ?rest9x35
        case hy9x35 =>
          intro W0 hSw
          obtain ⟨s1, s2, s3, s4⟩ := hSw
          go_simp
          first | done | with_reducible rfl
        try simp only [Act.put, List.setIfInBounds_toArray, List.set_cons_zero, List.set_cons_succ]
        refine wpAnyH_take (i := 10) (oi := ({ dst := some 95, op := Go.Op.unOp Go.UnOp.not 4 (Go.Operand.tmp 94), type := 4, pos := "law.go:232", after := #[{ on := 9, ground := Go.Ground.data }, { on := 8, ground := Go.Ground.guard }], guard := some (8, true) } : Oper)) (v := ?v10x36) rfl (by kernel_rfl) (by kernel_rfl) (by kernel_rfl) (fun _ _ _ h => h) (Or.inl ⟨by rfl, ?hy10x36⟩) (by first | exact trivial | assumption) ?rest10x36
        case hy10x36 =>
          intro W0 hSw
          obtain ⟨s1, s2, s3, s4⟩ := hSw
          go_simp
          first | done | with_reducible rfl
        try simp only [Act.put, List.setIfInBounds_toArray, List.set_cons_zero, List.set_cons_succ]
        refine wpAnyH_take (i := 11) (oi := ({ dst := some 96, op := Go.Op.move (Go.Operand.tmp 95), type := 4, pos := "law.go:232", after := #[{ on := 10, ground := Go.Ground.data }, { on := 8, ground := Go.Ground.chain }, { on := 8, ground := Go.Ground.guard }], guard := some (8, true) } : Oper)) (v := ?v11x37) rfl (by kernel_rfl) (by kernel_rfl) (by kernel_rfl) (fun _ _ _ h => h) (Or.inl ⟨by rfl, ?hy11x37⟩) (by first | exact trivial | assumption) ?rest11x37
        case hy11x37 =>
          intro W0 hSw
          obtain ⟨s1, s2, s3, s4⟩ := hSw
          go_simp
          first | done | with_reducible rfl
        try simp only [Act.put, List.setIfInBounds_toArray, List.set_cons_zero, List.set_cons_succ]
        refine wpAnyH_take (i := 12) (oi := ({ dst := some 97, op := Go.Op.fieldAddr 46 (Go.Operand.tmp 14) 0, type := 0, pos := "law.go:232", after := #[{ on := 11, ground := Go.Ground.guard }], guard := some (11, false) } : Oper)) (v := ?v12x38) rfl (by kernel_rfl) (by kernel_rfl) (by kernel_rfl) (fun _ _ _ h => h) (Or.inl ⟨by rfl, ?hy12x38⟩) (by first | exact trivial | assumption) ?rest12x38
        case hy12x38 =>
          intro W0 hSw
          obtain ⟨s1, s2, s3, s4⟩ := hSw
          go_simp
          first | done | with_reducible rfl
        try simp only [Act.put, List.setIfInBounds_toArray, List.set_cons_zero, List.set_cons_succ]
        refine wpAnyH_take (i := 13) (oi := ({ dst := some 98, op := Go.Op.load 23 (Go.Operand.tmp 97), type := 23, pos := "law.go:232", after := #[{ on := 12, ground := Go.Ground.data }, { on := 11, ground := Go.Ground.guard }], guard := some (11, false) } : Oper)) (v := ?v13x39) rfl (by kernel_rfl) (by kernel_rfl) (by kernel_rfl) (fun _ _ _ h => h) (Or.inl ⟨by rfl, ?hy13x39⟩) (by first | exact trivial | assumption) ?rest13x39
        case hy13x39 =>
          intro W0 hSw
          obtain ⟨s1, s2, s3, s4⟩ := hSw
          go_simp
          first | done | with_reducible rfl
        try simp only [Act.put, List.setIfInBounds_toArray, List.set_cons_zero, List.set_cons_succ]
        refine wpAnyH_take (i := 14) (oi := ({ dst := some 99, op := Go.Op.convert 23 9 (Go.Operand.tmp 98), type := 9, pos := "law.go:232", after := #[{ on := 13, ground := Go.Ground.data }, { on := 11, ground := Go.Ground.guard }], guard := some (11, false) } : Oper)) (v := ?v14x40) rfl (by kernel_rfl) (by kernel_rfl) (by kernel_rfl) (fun _ _ _ h => h) (Or.inl ⟨by rfl, ?hy14x40⟩) (by first | exact trivial | assumption) ?rest14x40
        case hy14x40 =>
          intro W0 hSw
          obtain ⟨s1, s2, s3, s4⟩ := hSw
          go_simp
          first | done | with_reducible rfl
        try simp only [Act.put, List.setIfInBounds_toArray, List.set_cons_zero, List.set_cons_succ]
        refine wpAnyH_take (i := 15) (oi := ({ dst := some 100, op := Go.Op.move (Go.Operand.tmp 13), type := 40, pos := "law.go:232", after := #[{ on := 11, ground := Go.Ground.guard }], guard := some (11, false) } : Oper)) (v := ?v15x41) rfl (by kernel_rfl) (by kernel_rfl) (by kernel_rfl) (fun _ _ _ h => h) (Or.inl ⟨by rfl, ?hy15x41⟩) (by first | exact trivial | assumption) ?rest15x41
        case hy15x41 =>
          intro W0 hSw
          obtain ⟨s1, s2, s3, s4⟩ := hSw
          go_simp
          first | done | with_reducible rfl
        try simp only [Act.put, List.setIfInBounds_toArray, List.set_cons_zero, List.set_cons_succ]
        refine wpAnyH_take (i := 16) (oi := ({ dst := some 101, op := Go.Op.move (Go.Operand.tmp 13), type := 40, pos := "law.go:232", after := #[{ on := 11, ground := Go.Ground.guard }], guard := some (11, false) } : Oper)) (v := ?v16x42) rfl (by kernel_rfl) (by kernel_rfl) (by kernel_rfl) (fun _ _ _ h => h) (Or.inl ⟨by rfl, ?hy16x42⟩) (by first | exact trivial | assumption) ?rest16x42
        case hy16x42 =>
          intro W0 hSw
          obtain ⟨s1, s2, s3, s4⟩ := hSw
          go_simp
          first | done | with_reducible rfl
        try simp only [Act.put, List.setIfInBounds_toArray, List.set_cons_zero, List.set_cons_succ]
        refine wpAnyH_take (i := 17) (oi := ({ dst := some 102, op := Go.Op.call { callee := Go.Callee.builtin Go.Builtin.len, args := #[Go.Operand.tmp 101], argTypes := #[40] }, type := 3, pos := "law.go:232", after := #[{ on := 16, ground := Go.Ground.data }, { on := 11, ground := Go.Ground.guard }], guard := some (11, false) } : Oper)) (v := ?v17x43) rfl (by kernel_rfl) (by kernel_rfl) (by kernel_rfl) (fun _ _ _ h => h) (Or.inl ⟨by rfl, ?hy17x43⟩) (by first | exact trivial | assumption) ?rest17x43
        case hy17x43 =>
          intro W0 hSw
          obtain ⟨s1, s2, s3, s4⟩ := hSw
          go_simp
          first | done | with_reducible rfl
        try simp only [Act.put, List.setIfInBounds_toArray, List.set_cons_zero, List.set_cons_succ]
        refine wpAnyH_take (i := 18) (oi := ({ dst := some 103, op := Go.Op.binOp Go.BinOp.sub 3 (Go.Operand.tmp 102) (Go.Operand.const (Go.Value.int Go.IntKind.i64 1)) 3, type := 3, pos := "law.go:232", after := #[{ on := 17, ground := Go.Ground.data }, { on := 11, ground := Go.Ground.guard }], guard := some (11, false) } : Oper)) (v := ?v18x44) rfl (by kernel_rfl) (by kernel_rfl) (by kernel_rfl) (fun _ _ _ h => h) (Or.inl ⟨by rfl, ?hy18x44⟩) (by first | exact trivial | assumption) ?rest18x44
        case hy18x44 =>
          intro W0 hSw
          obtain ⟨s1, s2, s3, s4⟩ := hSw
          go_simp
          first | done | with_reducible rfl
        try simp only [Act.put, List.setIfInBounds_toArray, List.set_cons_zero, List.set_cons_succ]
        refine wpAnyH_take (i := 19) (oi := ({ dst := some 104, op := Go.Op.indexAddr 40 (Go.Operand.tmp 100) (Go.Operand.tmp 103), type := 0, pos := "law.go:232", after := #[{ on := 15, ground := Go.Ground.data }, { on := 18, ground := Go.Ground.data }, { on := 11, ground := Go.Ground.guard }], guard := some (11, false) } : Oper)) (v := ?v19x45) rfl (by kernel_rfl) (by kernel_rfl) (by kernel_rfl) (fun _ _ _ h => h) (Or.inl ⟨by rfl, ?hy19x45⟩) (by first | exact trivial | assumption) ?rest19x45
        case hy19x45 =>
          intro W0 hSw
          obtain ⟨s1, s2, s3, s4⟩ := hSw
          go_simp
          first | done | with_reducible rfl
        try simp only [Act.put, List.setIfInBounds_toArray, List.set_cons_zero, List.set_cons_succ]
        refine wpAnyH_take (i := 20) (oi := ({ dst := some 105, op := Go.Op.fieldAddr 46 (Go.Operand.tmp 104) 0, type := 0, pos := "law.go:232", after := #[{ on := 19, ground := Go.Ground.data }, { on := 11, ground := Go.Ground.guard }], guard := some (11, false) } : Oper)) (v := ?v20x46) rfl (by kernel_rfl) (by kernel_rfl) (by kernel_rfl) (fun _ _ _ h => h) (Or.inl ⟨by rfl, ?hy20x46⟩) (by first | exact trivial | assumption) ?rest20x46
        case hy20x46 =>
          intro W0 hSw
          obtain ⟨s1, s2, s3, s4⟩ := hSw
          go_simp
          first | done | with_reducible rfl
        try simp only [Act.put, List.setIfInBounds_toArray, List.set_cons_zero, List.set_cons_succ]
        refine wpAnyH_take (i := 21) (oi := ({ dst := some 106, op := Go.Op.load 23 (Go.Operand.tmp 105), type := 23, pos := "law.go:232", after := #[{ on := 20, ground := Go.Ground.data }, { on := 11, ground := Go.Ground.guard }], guard := some (11, false) } : Oper)) (v := ?v21x47) rfl (by kernel_rfl) (by kernel_rfl) (by kernel_rfl) (fun _ _ _ h => h) (Or.inl ⟨by rfl, ?hy21x47⟩) (by first | exact trivial | assumption) ?rest21x47
        case hy21x47 =>
          intro W0 hSw
          obtain ⟨s1, s2, s3, s4⟩ := hSw
          go_simp
          first | done | with_reducible rfl
        try simp only [Act.put, List.setIfInBounds_toArray, List.set_cons_zero, List.set_cons_succ]
        refine wpAnyH_take (i := 22) (oi := ({ dst := some 107, op := Go.Op.convert 23 9 (Go.Operand.tmp 106), type := 9, pos := "law.go:232", after := #[{ on := 21, ground := Go.Ground.data }, { on := 11, ground := Go.Ground.guard }], guard := some (11, false) } : Oper)) (v := ?v22x48) rfl (by kernel_rfl) (by kernel_rfl) (by kernel_rfl) (fun _ _ _ h => h) (Or.inl ⟨by rfl, ?hy22x48⟩) (by first | exact trivial | assumption) ?rest22x48
        case hy22x48 =>
          intro W0 hSw
          obtain ⟨s1, s2, s3, s4⟩ := hSw
          go_simp
          first | done | with_reducible rfl
        try simp only [Act.put, List.setIfInBounds_toArray, List.set_cons_zero, List.set_cons_succ]
        refine wpAnyH_take (i := 23) (oi := ({ dst := some 108, op := Go.Op.binOp Go.BinOp.eql 9 (Go.Operand.tmp 99) (Go.Operand.tmp 107) 9, type := 4, pos := "law.go:232", after := #[{ on := 14, ground := Go.Ground.data }, { on := 22, ground := Go.Ground.data }, { on := 11, ground := Go.Ground.guard }], guard := some (11, false) } : Oper)) (v := ?v23x49) rfl (by kernel_rfl) (by kernel_rfl) (by kernel_rfl) (fun _ _ _ h => h) (Or.inl ⟨by rfl, ?hy23x49⟩) (by first | exact trivial | assumption) ?rest23x49
        case hy23x49 =>
          intro W0 hSw
          obtain ⟨s1, s2, s3, s4⟩ := hSw
          go_simp
          first | done | with_reducible rfl
        try simp only [Act.put, List.setIfInBounds_toArray, List.set_cons_zero, List.set_cons_succ]
        refine wpAnyH_take (i := 24) (oi := ({ dst := some 109, op := Go.Op.pick (Go.Operand.tmp 96) (Go.Operand.const (Go.Value.bool true)) (Go.Operand.tmp 108), type := 4, pos := "law.go:232", after := #[{ on := 11, ground := Go.Ground.data }, { on := 23, ground := Go.Ground.data }, { on := 8, ground := Go.Ground.guard }], guard := some (8, true) } : Oper)) (v := ?v24x50) rfl (by kernel_rfl) (by kernel_rfl) (by kernel_rfl) (fun _ _ _ h => h) (Or.inl ⟨by rfl, ?hy24x50⟩) (by first | exact trivial | assumption) ?rest24x50
        case hy24x50 =>
          intro W0 hSw
          obtain ⟨s1, s2, s3, s4⟩ := hSw
          go_simp
          first | done | with_reducible rfl
        try simp only [Act.put, List.setIfInBounds_toArray, List.set_cons_zero, List.set_cons_succ]
        refine wpAnyH_take (i := 25) (oi := ({ dst := some 110, op := Go.Op.pick (Go.Operand.tmp 93) (Go.Operand.tmp 109) (Go.Operand.const (Go.Value.bool false)), type := 4, pos := "law.go:232", after := #[{ on := 8, ground := Go.Ground.data }, { on := 24, ground := Go.Ground.data }], guard := none } : Oper)) (v := ?v25x51) rfl (by kernel_rfl) (by kernel_rfl) (by kernel_rfl) (fun _ _ _ h => h) (Or.inl ⟨by rfl, ?hy25x51⟩) (by first | exact trivial | assumption) ?rest25x51
        case hy25x51 =>
          intro W0 hSw
          obtain ⟨s1, s2, s3, s4⟩ := hSw
          go_simp
          first | done | with_reducible rfl
        try simp only [Act.put, List.setIfInBounds_toArray, List.set_cons_zero, List.set_cons_succ]
        refine wpAnyH_take (i := 26) (oi := ({ dst := some 4, op := Go.Op.assign (Go.Operand.tmp 110), type := 4, pos := "law.go:232", after := #[{ on := 25, ground := Go.Ground.data }, { on := 11, ground := Go.Ground.chain }, { on := 0, ground := Go.Ground.phase }, { on := 1, ground := Go.Ground.phase }, { on := 2, ground := Go.Ground.phase }, { on := 3, ground := Go.Ground.phase }, { on := 4, ground := Go.Ground.phase }, { on := 5, ground := Go.Ground.phase }, { on := 6, ground := Go.Ground.phase }, { on := 7, ground := Go.Ground.phase }, { on := 8, ground := Go.Ground.phase }, { on := 9, ground := Go.Ground.phase }, { on := 10, ground := Go.Ground.phase }, { on := 11, ground := Go.Ground.phase }, { on := 12, ground := Go.Ground.phase }, { on := 13, ground := Go.Ground.phase }, { on := 14, ground := Go.Ground.phase }, { on := 15, ground := Go.Ground.phase }, { on := 16, ground := Go.Ground.phase }, { on := 17, ground := Go.Ground.phase }, { on := 18, ground := Go.Ground.phase }, { on := 19, ground := Go.Ground.phase }, { on := 20, ground := Go.Ground.phase }, { on := 21, ground := Go.Ground.phase }, { on := 22, ground := Go.Ground.phase }, { on := 23, ground := Go.Ground.phase }, { on := 24, ground := Go.Ground.phase }, { on := 25, ground := Go.Ground.phase }], guard := none } : Oper)) (v := ?v26x52) rfl (by kernel_rfl) (by kernel_rfl) (by kernel_rfl) (fun _ _ _ h => h) (Or.inl ⟨by rfl, ?hy26x52⟩) (by first | exact trivial | assumption) ?rest26x52
        case hy26x52 =>
          intro W0 hSw
          obtain ⟨s1, s2, s3, s4⟩ := hSw
          go_simp
          first | done | with_reducible rfl
        try simp only [Act.put, List.setIfInBounds_toArray, List.set_cons_zero, List.set_cons_succ]
        refine wpAnyH_done (by kernel_rfl) ?_ _
        go_wp2_with fail
        go_ret
        exact ⟨rfl, HB22.out⟩
end Go.Proofs.Ytekipbcfgopmlaa
