/- Package row: a value's bytes, appended to a row of the call's own. -/
import Derived.Test.YtkohppalfcalbaaGreatWX
import Derived.Test.YtkohppalfcalbaaGreatKX
import Derived.Lib.AppendStr
import Derived.Test.YtkohppalfcalbaaGreatGSM
import Derived.Test.YtkohppalfcalbaaGreatJZ
namespace Go.Proofs.YtkohppalfcalbaaGreat
section
open Go.RowKit

/-- what the row's call that appends answers -/
def AppR (B : Nat) (w : World) (v : Value) (l : List UInt8) (e : Ending) (w' : World) : Prop := ∃ v', e = .returned v' ∧ OwnB w' B v' l ∧ w.grownBy w' v.ownBlock
theorem Grew.then {w w1 w2 : World} {v v1 : Value} (h : Grew w v w1 v1) (k : w1.grownBy w2 v1.ownBlock) : w.grownBy w2 v.ownBlock := by
  obtain ⟨g1, a1⟩ := h
  refine ⟨k.os.trans g1.os, k.tape.trans g1.tape, k.output.trans g1.output, Nat.le_trans g1.size k.size, fun b hb hne => ?_⟩
  have hb1 := g1.block b hb hne
  have hlt := g1.size
  refine (k.block b (by omega) (fun e => ?_)).trans hb1
  rcases a1 with a1 | a1
  · exact hne (e.trans a1)
  · have := a1 b e.symm
    omega
theorem grown_below {w w' : World} {B : Nat} {v : Value} (h : w.grownBy w' v.ownBlock) (hB : B ≤ w.heap.size) (hv : ∀ k, v.ownBlock = some k → B ≤ k) : Below B w w' :=
  ⟨h.os, h.tape, h.output, h.size, fun k hk => h.block k (by omega) (fun e => by have := hv k e.symm; omega)⟩
theorem box_ne {w w5 : World} {B : Nat} {v v5 : Value} {l : List UInt8} {o p : Obj} (h : OwnB w B v l) (hg : Grew ((w.alloc o).alloc p) v w5 v5) : v5.ownBlock ≠ some w.heap.size := fun e => by
  rcases hg.at_ with h1 | h1
  · have := h.lt _ (h1.symm.trans e)
    omega
  · have := h1 _ e
    simp at this
    omega
theorem strCells_bytesV (s : ByteArray) : Lib.strCells s = bytesV s.data.toList := rfl
/-- append of a string -/
theorem wpList_appS {P : Program} {w : World} {ops : Array Oper} {rest : List Oper} {o : Oper} {a : Act} {Q : Exit → Act → World → Prop} (hgd : o.guard = none) (s x : Operand) (t u : TypeId) (ho : o.op = .call { callee := .builtin .append, args := #[s, x], argTypes := #[t, u] })
    {i0 : TypeInfo} {B : Nat} (ht : P.underlying t = some (.slice 5)) (hu : P.underlying u = some .string) (hi : P.info? 5 = some i0) (hz : i0.zero = some (.int .u8 0)) (hs : i0.size = 1) (hb : i0.bytes = 1)
    {v : Value} {xs : List UInt8} (hv : a.eval s = v) (hown : OwnB w B v xs) {y : ByteArray} (hx : a.eval x = .string y) (h63 : xs.length + y.size ≤ 1000000) (hbase : B ≤ w.heap.size)
    (h : ∀ v' w', OwnB w' B v' (xs ++ y.data.toList) → w.grownBy w' v.ownBlock → wpList P ops Q rest (a.put o.dst v') w') : wpList P ops Q (o :: rest) a w := by
  refine Lib.wpList_append_own_string w hgd s x t u ho B 5 i0 ht hu hi hz hs hb v xs.length (bytesV xs) hv hown.1 y hx (by unfold maxLen; omega) (by omega) hbase fun v' w' h2 h3 _ => h v' w' ?_ h3
  rw [strCells_bytesV, ← bytesV_app] at h2
  exact OwnB.of_row h2
set_option maxRecDepth 100000 in
set_option maxHeartbeats 8000000 in
theorem appendValueR_any (B : Nat) (v : Value) (xs : List UInt8) (x : Val) (hR : x.R) (w : World) (hown : OwnB w B v xs) (hB : B ≤ w.heap.size) (hx : xs.length ≤ 9000) :
    Calls Tryz.prog 129 #[v, .agg #[.int .i64 x.k, .int .i64 x.n, .string x.s]] w (AppR B w v (xs ++ rowV x)) := by
  obtain ⟨i0, hi, hz0, hz1, hz2⟩ := info_parts info8
  obtain ⟨A, cap, hv, hcap⟩ := hown.2
  subst hv
  have hc := hR.cases
  obtain ⟨k, n, s⟩ := x
  simp only at hc
  have HO := Lib.hid hown
  have HX := Lib.hid hx
  have HB := Lib.hid hB
  have HBA := Lib.hid (alloc_below w (.cells #[.int .i64 k, .int .i64 n, .string s] 184))
  have HBX : Hid ((w.alloc (.cells #[.int .i64 k, .int .i64 n, .string s] 184)).heap[w.heap.size]? = some (.cells #[.int .i64 k, .int .i64 n, .string s] 184 (0, 0))) := Lib.hid (heap_alloc_new _ _)
  have HM1 : Hid (xs.length + 1 ≤ 1000000) := Lib.hid (by omega)
  have HBZ : Hid (∀ o p, B ≤ ((w.alloc o).alloc p).heap.size) := Lib.hid fun o p => by simp; omega
  clear hown hx hB hR
  rcases hc with ⟨rfl, rfl, rfl⟩ | ⟨rfl, hn, rfl⟩ | ⟨hk, rfl, hn⟩ | ⟨hk, rfl, hs⟩
  · go_enter Tryz.func129, Tryz.ntmps129
    go_wp2_with (first
      | (at_builtin
         have h1 := HO.out.below (alloc2_below w (.cells #[.int .i64 0, .int .i64 0, .string ⟨#[]⟩] 184) (.cells #[.int .u8 0] 5))
         have h2 := rd_one2 w (.cells #[.int .i64 0, .int .i64 0, .string ⟨#[]⟩] 184) 0 0 rfl
         refine wpList_appB (xs := xs) (ys := [0]) (B := B) rfl _ _ 22 rfl Tryz.underlying22 hi hz0 hz1 hz2 rfl h1 rfl rfl h2 HM1.out (HBZ.out _ _) ?_
         intro v5 w5 ho5 hg5
         have HO5 := Lib.hid ho5
         have HG5 := Lib.hid ((Grew.below (alloc2_below _ _ _)).trans hg5)
         have HX5 := Lib.hid (box_kept HO.out (by exact HBX.out) hg5)
         have HB5 : Hid (B ≤ w5.heap.size) := Lib.hid (Nat.le_trans HB.out HG5.out.by_.size)
         have HL5 : Hid ((xs ++ [0]).length ≤ 9001) := Lib.hid (by rw [List.length_append]; simp; exact HX.out)
         have HNE := Lib.hid (box_ne HO.out hg5)
         obtain ⟨x0, x1, x2⟩ := box3 HX5.out
         clear ho5 hg5 h1 h2)
      | fail)
    go_ret
    exact ⟨v5, rfl, HO5.out, HG5.out.by_⟩
  · rcases hn with rfl | rfl
    · go_enter Tryz.func129, Tryz.ntmps129
      go_wp2_with (first
        | (at_builtin
           refine wpList_appB (xs := xs ++ [1]) (ys := [0]) (B := B) rfl _ _ 22 rfl Tryz.underlying22 hi hz0 hz1 hz2 rfl (HO5.out.below (alloc_below _ _)) rfl rfl (rd_one _ _ 0 rfl) (by have := HL5.out; simp at this ⊢; omega) (Nat.le_trans HB5.out (alloc_below _ _).size) ?_
           intro v6 w6 ho6 hg6
           have HY : Hid (AppR B w (.slice A xs.length cap) (xs ++ rowV ⟨1, 0, ⟨#[]⟩⟩) (.returned v6) w6) := Lib.hid ⟨v6, rfl, by have h := ho6; rw [List.append_assoc] at h; exact h, (HG5.out.trans ((Grew.below (alloc_below _ _)).trans hg6)).by_⟩
           clear ho6 hg6)
        | (at_builtin
           have h1 := HO.out.below (alloc2_below w (.cells #[.int .i64 1, .int .i64 0, .string ⟨#[]⟩] 184) (.cells #[.int .u8 1] 5))
           have h2 := rd_one2 w (.cells #[.int .i64 1, .int .i64 0, .string ⟨#[]⟩] 184) 1 1 rfl
           refine wpList_appB (xs := xs) (ys := [1]) (B := B) rfl _ _ 22 rfl Tryz.underlying22 hi hz0 hz1 hz2 rfl h1 rfl rfl h2 HM1.out (HBZ.out _ _) ?_
           intro v5 w5 ho5 hg5
           have HO5 := Lib.hid ho5
           have HG5 := Lib.hid ((Grew.below (alloc2_below _ _ _)).trans hg5)
           have HX5 := Lib.hid (box_kept HO.out (by exact HBX.out) hg5)
           have HB5 : Hid (B ≤ w5.heap.size) := Lib.hid (Nat.le_trans HB.out HG5.out.by_.size)
           have HL5 : Hid ((xs ++ [1]).length ≤ 9001) := Lib.hid (by rw [List.length_append]; simp; exact HX.out)
           have HNE := Lib.hid (box_ne HO.out hg5)
           obtain ⟨x0, x1, x2⟩ := box3 HX5.out
           clear ho5 hg5 h1 h2)
        | fail)
      go_ret
      exact HY.out
    · go_enter Tryz.func129, Tryz.ntmps129
      go_wp2_with (first
        | (at_builtin
           refine wpList_appB (xs := xs ++ [1]) (ys := [1]) (B := B) rfl _ _ 22 rfl Tryz.underlying22 hi hz0 hz1 hz2 rfl (HO5.out.below (alloc_below _ _)) rfl rfl (rd_one _ _ 1 rfl) (by have := HL5.out; simp at this ⊢; omega) (Nat.le_trans HB5.out (alloc_below _ _).size) ?_
           intro v6 w6 ho6 hg6
           have HY : Hid (AppR B w (.slice A xs.length cap) (xs ++ rowV ⟨1, 1, ⟨#[]⟩⟩) (.returned v6) w6) := Lib.hid ⟨v6, rfl, by have h := ho6; rw [List.append_assoc] at h; exact h, (HG5.out.trans ((Grew.below (alloc_below _ _)).trans hg6)).by_⟩
           clear ho6 hg6)
        | (at_builtin
           have h1 := HO.out.below (alloc2_below w (.cells #[.int .i64 1, .int .i64 1, .string ⟨#[]⟩] 184) (.cells #[.int .u8 1] 5))
           have h2 := rd_one2 w (.cells #[.int .i64 1, .int .i64 1, .string ⟨#[]⟩] 184) 1 1 rfl
           refine wpList_appB (xs := xs) (ys := [1]) (B := B) rfl _ _ 22 rfl Tryz.underlying22 hi hz0 hz1 hz2 rfl h1 rfl rfl h2 HM1.out (HBZ.out _ _) ?_
           intro v5 w5 ho5 hg5
           have HO5 := Lib.hid ho5
           have HG5 := Lib.hid ((Grew.below (alloc2_below _ _ _)).trans hg5)
           have HX5 := Lib.hid (box_kept HO.out (by exact HBX.out) hg5)
           have HB5 : Hid (B ≤ w5.heap.size) := Lib.hid (Nat.le_trans HB.out HG5.out.by_.size)
           have HL5 : Hid ((xs ++ [1]).length ≤ 9001) := Lib.hid (by rw [List.length_append]; simp; exact HX.out)
           have HNE := Lib.hid (box_ne HO.out hg5)
           obtain ⟨x0, x1, x2⟩ := box3 HX5.out
           clear ho5 hg5 h1 h2)
        | fail)
      go_ret
      exact HY.out
  · have HN := Lib.hid hn
    clear hn
    rcases hk with rfl | rfl
    · go_enter Tryz.func129, Tryz.ntmps129
      go_wp2_with (first
        | (at_builtin
           refine wpList_appB (xs := xs ++ [2]) (ys := vL (zig n)) (B := B) rfl _ _ 22 rfl Tryz.underlying22 hi hz0 hz1 hz2 rfl HO5.out rfl rfl HO6.out (by have h1 := HL5.out; have h2 := vL_10 (zig_lt HN.out.1 HN.out.2); omega) HB6.out ?_
           intro v7 w7 ho7 hg7
           have HY : Hid (AppR B w (.slice A xs.length cap) (xs ++ rowV ⟨2, n, ⟨#[]⟩⟩) (.returned v7) w7) := Lib.hid ⟨v7, rfl, by have h := ho7; rw [List.append_assoc] at h; exact h, (HG6.out.trans hg7).by_⟩
           clear ho7 hg7)
        | (go_at_call 169; refine (short_any n HN.out _).mono ?_; rintro e w6 ⟨v6, rfl, ho6, hb6⟩
           obtain ⟨A6, cap6, hv6, hcap6⟩ := ho6.2
           subst hv6
           have HO6 := Lib.hid ho6.rd
           have HG6 := Lib.hid (HG5.out.trans (Grew.below (v := v5) hb6))
           have HO5 := Lib.hid (HO5.out.below hb6)
           have HB6 : Hid (B ≤ w6.heap.size) := Lib.hid (Nat.le_trans HB5.out hb6.size)
           clear ho6 hb6 hcap6)
        | (at_builtin
           have h1 := HO.out.below (alloc2_below w (.cells #[.int .i64 2, .int .i64 n, .string ⟨#[]⟩] 184) (.cells #[.int .u8 2] 5))
           have h2 := rd_one2 w (.cells #[.int .i64 2, .int .i64 n, .string ⟨#[]⟩] 184) 2 2 rfl
           refine wpList_appB (xs := xs) (ys := [2]) (B := B) rfl _ _ 22 rfl Tryz.underlying22 hi hz0 hz1 hz2 rfl h1 rfl rfl h2 HM1.out (HBZ.out _ _) ?_
           intro v5 w5 ho5 hg5
           have HO5 := Lib.hid ho5
           have HG5 := Lib.hid ((Grew.below (alloc2_below _ _ _)).trans hg5)
           have HX5 := Lib.hid (box_kept HO.out (by exact HBX.out) hg5)
           have HB5 : Hid (B ≤ w5.heap.size) := Lib.hid (Nat.le_trans HB.out HG5.out.by_.size)
           have HL5 : Hid ((xs ++ [2]).length ≤ 9001) := Lib.hid (by rw [List.length_append]; simp; exact HX.out)
           have HNE := Lib.hid (box_ne HO.out hg5)
           obtain ⟨x0, x1, x2⟩ := box3 HX5.out
           clear ho5 hg5 h1 h2)
        | fail)
      go_ret
      exact HY.out
    · go_enter Tryz.func129, Tryz.ntmps129
      go_wp2_with (first
        | (at_builtin
           refine wpList_appB (xs := xs ++ [3]) (ys := vL (zig n)) (B := B) rfl _ _ 22 rfl Tryz.underlying22 hi hz0 hz1 hz2 rfl HO5.out rfl rfl HO6.out (by have h1 := HL5.out; have h2 := vL_10 (zig_lt HN.out.1 HN.out.2); omega) HB6.out ?_
           intro v7 w7 ho7 hg7
           have HY : Hid (AppR B w (.slice A xs.length cap) (xs ++ rowV ⟨3, n, ⟨#[]⟩⟩) (.returned v7) w7) := Lib.hid ⟨v7, rfl, by have h := ho7; rw [List.append_assoc] at h; exact h, (HG6.out.trans hg7).by_⟩
           clear ho7 hg7)
        | (go_at_call 169; refine (short_any n HN.out _).mono ?_; rintro e w6 ⟨v6, rfl, ho6, hb6⟩
           obtain ⟨A6, cap6, hv6, hcap6⟩ := ho6.2
           subst hv6
           have HO6 := Lib.hid ho6.rd
           have HG6 := Lib.hid (HG5.out.trans (Grew.below (v := v5) hb6))
           have HO5 := Lib.hid (HO5.out.below hb6)
           have HB6 : Hid (B ≤ w6.heap.size) := Lib.hid (Nat.le_trans HB5.out hb6.size)
           clear ho6 hb6 hcap6)
        | (at_builtin
           have h1 := HO.out.below (alloc2_below w (.cells #[.int .i64 3, .int .i64 n, .string ⟨#[]⟩] 184) (.cells #[.int .u8 3] 5))
           have h2 := rd_one2 w (.cells #[.int .i64 3, .int .i64 n, .string ⟨#[]⟩] 184) 3 3 rfl
           refine wpList_appB (xs := xs) (ys := [3]) (B := B) rfl _ _ 22 rfl Tryz.underlying22 hi hz0 hz1 hz2 rfl h1 rfl rfl h2 HM1.out (HBZ.out _ _) ?_
           intro v5 w5 ho5 hg5
           have HO5 := Lib.hid ho5
           have HG5 := Lib.hid ((Grew.below (alloc2_below _ _ _)).trans hg5)
           have HX5 := Lib.hid (box_kept HO.out (by exact HBX.out) hg5)
           have HB5 : Hid (B ≤ w5.heap.size) := Lib.hid (Nat.le_trans HB.out HG5.out.by_.size)
           have HL5 : Hid ((xs ++ [3]).length ≤ 9001) := Lib.hid (by rw [List.length_append]; simp; exact HX.out)
           have HNE := Lib.hid (box_ne HO.out hg5)
           obtain ⟨x0, x1, x2⟩ := box3 HX5.out
           clear ho5 hg5 h1 h2)
        | fail)
      go_ret
      exact HY.out
  · have HS := Lib.hid hs
    have HN : Hid (i64ok (s.size : Int)) := Lib.hid (by unfold i64ok; omega)
    clear hs
    rcases hk with rfl | rfl
    · have HE : Hid (xs ++ [4] ++ vL (zig (s.size : Int)) ++ s.data.toList = xs ++ rowV ⟨4, 0, s⟩) := Lib.hid (by simp [rowV, bodyR])
      go_enter Tryz.func129, Tryz.ntmps129
      go_wp2_with (first
        | (at_builtin
           refine wpList_appS (xs := xs ++ [4] ++ vL (zig (s.size : Int))) (y := s) (B := B) rfl _ _ 22 9 rfl Tryz.underlying22 Tryz.underlying9 hi hz0 hz1 hz2 rfl HO7.out rfl (by have h1 := HL5.out; have h2 := vL_10 (zig_lt HN.out.1 HN.out.2); have h3 := HS.out; rw [List.length_append]; omega) HB7.out ?_
           intro v8 w8 ho8 hg8
           have HY : Hid (AppR B w (.slice A xs.length cap) (xs ++ rowV ⟨4, 0, s⟩) (.returned v8) w8) := Lib.hid ⟨v8, rfl, by have h := ho8; rw [HE.out] at h; exact h, HG7.out.then hg8⟩
           clear ho8 hg8)
        | (at_builtin
           refine wpList_appB (xs := xs ++ [4]) (ys := vL (zig (s.size : Int))) (B := B) rfl _ _ 22 rfl Tryz.underlying22 hi hz0 hz1 hz2 rfl HO5.out rfl rfl HO6.out (by have h1 := HL5.out; have h2 := vL_10 (zig_lt HN.out.1 HN.out.2); omega) HB6.out ?_
           intro v7 w7 ho7 hg7
           have HO7 := Lib.hid ho7
           have HG7 := Lib.hid (HG6.out.trans hg7)
           have HX7 := Lib.hid ((hg7.by_.block _ HZ5.out (fun e => HNE.out e.symm)).trans HX5.out)
           have HB7 : Hid (B ≤ w7.heap.size) := Lib.hid (Nat.le_trans HB6.out hg7.by_.size)
           obtain ⟨x0, x1, x2⟩ := box3 HX7.out
           clear ho7 hg7)
        | (go_at_call 169; refine (short_any (s.size : Int) HN.out _).mono ?_; rintro e w6 ⟨v6, rfl, ho6, hb6⟩
           obtain ⟨A6, cap6, hv6, hcap6⟩ := ho6.2
           subst hv6
           have HO6 := Lib.hid ho6.rd
           have HG6 := Lib.hid (HG5.out.trans (Grew.below (v := v5) hb6))
           have HO5 := Lib.hid (HO5.out.below hb6)
           have HB6 : Hid (B ≤ w6.heap.size) := Lib.hid (Nat.le_trans HB5.out hb6.size)
           have HX5 := Lib.hid ((hb6.block _ (Array.getElem?_eq_some_iff.1 HX5.out).1).trans HX5.out)
           obtain ⟨x0, x1, x2⟩ := box3 HX5.out
           have HZ5 := Lib.hid (Array.getElem?_eq_some_iff.1 HX5.out).1
           clear ho6 hb6 hcap6)
        | (at_builtin
           have h1 := HO.out.below (alloc2_below w (.cells #[.int .i64 4, .int .i64 0, .string s] 184) (.cells #[.int .u8 4] 5))
           have h2 := rd_one2 w (.cells #[.int .i64 4, .int .i64 0, .string s] 184) 4 4 rfl
           refine wpList_appB (xs := xs) (ys := [4]) (B := B) rfl _ _ 22 rfl Tryz.underlying22 hi hz0 hz1 hz2 rfl h1 rfl rfl h2 HM1.out (HBZ.out _ _) ?_
           intro v5 w5 ho5 hg5
           have HO5 := Lib.hid ho5
           have HG5 := Lib.hid ((Grew.below (alloc2_below _ _ _)).trans hg5)
           have HX5 := Lib.hid (box_kept HO.out (by exact HBX.out) hg5)
           have HB5 : Hid (B ≤ w5.heap.size) := Lib.hid (Nat.le_trans HB.out HG5.out.by_.size)
           have HL5 : Hid ((xs ++ [4]).length ≤ 9001) := Lib.hid (by rw [List.length_append]; simp; exact HX.out)
           have HNE := Lib.hid (box_ne HO.out hg5)
           obtain ⟨x0, x1, x2⟩ := box3 HX5.out
           clear ho5 hg5 h1 h2)
        | fail)
      go_ret
      exact HY.out
    · have HE : Hid (xs ++ [5] ++ vL (zig (s.size : Int)) ++ s.data.toList = xs ++ rowV ⟨5, 0, s⟩) := Lib.hid (by simp [rowV, bodyR])
      go_enter Tryz.func129, Tryz.ntmps129
      go_wp2_with (first
        | (at_builtin
           refine wpList_appS (xs := xs ++ [5] ++ vL (zig (s.size : Int))) (y := s) (B := B) rfl _ _ 22 9 rfl Tryz.underlying22 Tryz.underlying9 hi hz0 hz1 hz2 rfl HO7.out rfl (by have h1 := HL5.out; have h2 := vL_10 (zig_lt HN.out.1 HN.out.2); have h3 := HS.out; rw [List.length_append]; omega) HB7.out ?_
           intro v8 w8 ho8 hg8
           have HY : Hid (AppR B w (.slice A xs.length cap) (xs ++ rowV ⟨5, 0, s⟩) (.returned v8) w8) := Lib.hid ⟨v8, rfl, by have h := ho8; rw [HE.out] at h; exact h, HG7.out.then hg8⟩
           clear ho8 hg8)
        | (at_builtin
           refine wpList_appB (xs := xs ++ [5]) (ys := vL (zig (s.size : Int))) (B := B) rfl _ _ 22 rfl Tryz.underlying22 hi hz0 hz1 hz2 rfl HO5.out rfl rfl HO6.out (by have h1 := HL5.out; have h2 := vL_10 (zig_lt HN.out.1 HN.out.2); omega) HB6.out ?_
           intro v7 w7 ho7 hg7
           have HO7 := Lib.hid ho7
           have HG7 := Lib.hid (HG6.out.trans hg7)
           have HX7 := Lib.hid ((hg7.by_.block _ HZ5.out (fun e => HNE.out e.symm)).trans HX5.out)
           have HB7 : Hid (B ≤ w7.heap.size) := Lib.hid (Nat.le_trans HB6.out hg7.by_.size)
           obtain ⟨x0, x1, x2⟩ := box3 HX7.out
           clear ho7 hg7)
        | (go_at_call 169; refine (short_any (s.size : Int) HN.out _).mono ?_; rintro e w6 ⟨v6, rfl, ho6, hb6⟩
           obtain ⟨A6, cap6, hv6, hcap6⟩ := ho6.2
           subst hv6
           have HO6 := Lib.hid ho6.rd
           have HG6 := Lib.hid (HG5.out.trans (Grew.below (v := v5) hb6))
           have HO5 := Lib.hid (HO5.out.below hb6)
           have HB6 : Hid (B ≤ w6.heap.size) := Lib.hid (Nat.le_trans HB5.out hb6.size)
           have HX5 := Lib.hid ((hb6.block _ (Array.getElem?_eq_some_iff.1 HX5.out).1).trans HX5.out)
           obtain ⟨x0, x1, x2⟩ := box3 HX5.out
           have HZ5 := Lib.hid (Array.getElem?_eq_some_iff.1 HX5.out).1
           clear ho6 hb6 hcap6)
        | (at_builtin
           have h1 := HO.out.below (alloc2_below w (.cells #[.int .i64 5, .int .i64 0, .string s] 184) (.cells #[.int .u8 5] 5))
           have h2 := rd_one2 w (.cells #[.int .i64 5, .int .i64 0, .string s] 184) 5 5 rfl
           refine wpList_appB (xs := xs) (ys := [5]) (B := B) rfl _ _ 22 rfl Tryz.underlying22 hi hz0 hz1 hz2 rfl h1 rfl rfl h2 HM1.out (HBZ.out _ _) ?_
           intro v5 w5 ho5 hg5
           have HO5 := Lib.hid ho5
           have HG5 := Lib.hid ((Grew.below (alloc2_below _ _ _)).trans hg5)
           have HX5 := Lib.hid (box_kept HO.out (by exact HBX.out) hg5)
           have HB5 : Hid (B ≤ w5.heap.size) := Lib.hid (Nat.le_trans HB.out HG5.out.by_.size)
           have HL5 : Hid ((xs ++ [5]).length ≤ 9001) := Lib.hid (by rw [List.length_append]; simp; exact HX.out)
           have HNE := Lib.hid (box_ne HO.out hg5)
           obtain ⟨x0, x1, x2⟩ := box3 HX5.out
           clear ho5 hg5 h1 h2)
        | fail)
      go_ret
      exact HY.out
end

section
open Go.RowKit

theorem own_start {w : World} (x : Int) (c : UInt8) (hx : x = (c.toNat : Int)) : OwnB (w.alloc (.cells #[.int .u8 x] 5)) w.heap.size (.slice (some ⟨w.heap.size, 0, none⟩) 1 1) [c] := by
  subst hx
  exact OwnB.of_row (n := 1) (l := [c]) (own_lit (heap_alloc_new w _) (Nat.le_refl _) rfl (by omega))
/-- what Encode answers -/
def EncPR (w : World) (l : List Val) (e : Ending) (w' : World) : Prop := Below w.heap.size w w' ∧ ((encOk l ∧ ∃ v, e = .returned (.tuple #[v, .int .i64 0]) ∧ OwnB w' w.heap.size v (rowB l)) ∨ (¬ encOk l ∧ e = .returned (.tuple #[.slice none 0 0, .int .i64 51])))
/-- at the head of its loop -/
def ERL (w : World) (l : List Val) (v4 v16 : Value) (wr : World) : Prop := ∃ (k : Nat) (y : Value), y = v4 ∧ k ≤ l.length ∧ v16 = .int .i64 k ∧ OwnB wr w.heap.size y (UInt8.ofNat l.length :: rowL (l.take k)) ∧ Below w.heap.size w wr ∧ (∀ x ∈ l.take k, rightB x = true)
set_option maxRecDepth 100000 in
set_option maxHeartbeats 4000000 in
theorem encodeR_any (l : List Val) (A : Option Addr) (cap : Nat) (w : World) (hok : AllOk l) (hr : RdV w w.heap.size A l) :
    Calls Tryz.prog 92 #[.slice A l.length cap] w (EncPR w l) := by
  have HR := Lib.hid hr
  have HK := Lib.hid hok
  clear hr hok
  by_cases h16 : l.length ≤ 16
  · have h16i : ¬ (16 : Int) < (l.length : Int) := by omega
    have HC : Hid (∀ x : Int, x = (l.length : Int) ∨ x = IntKind.u8.wrap (l.length : Int) → x = ((UInt8.ofNat l.length).toNat : Int)) := Lib.hid fun x hx => by rw [ofNat_toNat (by omega)]; rcases hx with rfl | rfl; rfl; rw [IntKind.wrap_u8]; omega
    go_enter Tryz.func92, Tryz.ntmps92
    go_wp2_with fail
    go_loopw [4, 16] (fun v4 v16 wr => ERL w l v4 v16 wr) (fun _ v16 _ => l.length - (intOf v16).toNat)
    case atStart => exact ⟨0, _, rfl, Nat.zero_le _, rfl, own_start _ _ (HC.out _ (by first | exact .inl rfl | exact .inr rfl)), alloc_below _ _, fun x hx => by simp at hx⟩
    case round =>
      obtain ⟨k, y, rfl, hk, rfl, ho, hb, hright⟩ := hrel
      have HO := Lib.hid ho
      have HB := Lib.hid hb
      have HT := Lib.hid hright
      clear ho hb hright
      by_cases hlt : k < l.length
      · obtain ⟨x, hx⟩ : ∃ x, l[k]? = some x := ⟨_, List.getElem?_eq_getElem hlt⟩
        obtain ⟨b, o, hA, c0, c1, c2⟩ := HR.out.at_ hx HB.out (Nat.le_refl _)
        subst hA
        have hki : (k : Int) < (l.length : Int) := by omega
        have hxm : x ∈ l := List.mem_of_getElem? hx
        have RA := Lib.hid (right_at' x (HK.out x hxm).2)
        have hok := (HK.out x hxm).1
        have HTK : Hid (l.take (k + 1) = l.take k ++ [x]) := Lib.hid (by rw [List.take_add_one, hx, Option.toList_some])
        have HL : Hid ((UInt8.ofNat l.length :: rowL (l.take k)).length ≤ 9000) := Lib.hid (by
          have h := rowL_len (l := l.take k) (fun z hz => ⟨HT.out z hz, (HK.out z (List.mem_of_mem_take hz)).1⟩)
          have h2 : (l.take k).length ≤ k := by rw [List.length_take]; omega
          rw [List.length_cons]
          omega)
        have HBX : Hid ((wr.alloc (.cells #[.int .i64 x.k, .int .i64 x.n, .string x.s] 184)).heap[wr.heap.size]? = some (.cells #[.int .i64 x.k, .int .i64 x.n, .string x.s] 184 (0, 0))) := Lib.hid (heap_alloc_new _ _)
        have HBA := Lib.hid (alloc_below wr (.cells #[.int .i64 x.k, .int .i64 x.n, .string x.s] 184))
        cases hrx : rightB x with
        | false =>
          rw [hrx] at RA
          have HN : Hid (¬ encOk l) := Lib.hid (fun h => by have := h.2 x hxm; rw [hrx] at this; cases this)
          clear hrx hx hok hxm hk
          go_wp2_with (go_at_call 128; refine (RA.out _).mono ?_; rintro e w2 ⟨rfl, hb2⟩; have HY : Hid (EncPR w l (.returned (.tuple #[.slice none 0 0, .int .i64 51])) w2) := Lib.hid ⟨HB.out.trans ((HBA.out.trans (hb2.mono HBA.out.size)).mono HB.out.size), .inr ⟨HN.out, rfl⟩⟩; clear hb2)
          go_ret2
          exact HY.out
        | true =>
          rw [hrx] at RA
          have AV := Lib.hid (fun v' xs w' (ho : OwnB w' w.heap.size v' xs) hB hL => appendValueR_any w.heap.size v' xs x ⟨hrx, hok⟩ w' ho hB hL)
          have HTR : Hid (∀ z ∈ l.take (k + 1), rightB z = true) := Lib.hid (by
            intro z hz
            rw [HTK.out, List.mem_append] at hz
            rcases hz with hz | hz
            · exact HT.out z hz
            · rw [List.mem_singleton] at hz; rw [hz]; exact hrx)
          have HEE : Hid (UInt8.ofNat l.length :: rowL (l.take (k + 1)) = (UInt8.ofNat l.length :: rowL (l.take k)) ++ rowV x) := Lib.hid (by rw [HTK.out, rowL_snoc]; rfl)
          clear hrx hx hok hxm
          go_wp2_with (first
            | (go_at_call 128; refine (RA.out _).mono ?_; rintro e w2 ⟨rfl, hb2⟩
               have HB2 := Lib.hid (HBA.out.trans (hb2.mono HBA.out.size))
               obtain ⟨x0, x1, x2⟩ := box3 ((hb2.block _ (by simp)).trans HBX.out)
               clear hb2)
            | (go_at_call 129; refine (AV.out _ _ _ (HO.out.below HB2.out) (Nat.le_trans HB.out.size HB2.out.size) HL.out).mono ?_; rintro e w6 ⟨v6, rfl, ho6, hg6⟩
               have HY : Hid (∀ v16, v16 = .int .i64 ((k + 1 : Nat) : Int) → ERL w l v6 v16 w6) := Lib.hid (fun v16 h12 => ⟨k + 1, _, rfl, hlt, h12, by rw [HEE.out]; exact ho6, (HB.out.trans (HB2.out.mono HB.out.size)).trans (grown_below hg6 (Nat.le_trans HB.out.size HB2.out.size) HO.out.ge), HTR.out⟩)
               clear ho6 hg6))
          go_roundw
          case rel => first | exact HY.out _ (by go_num) | ((repeat apply Exists.intro); exact ⟨HY.out _ (by go_num), rfl⟩)
          case measure => simp [intOf]; omega
      · have hkl : k = l.length := by omega
        subst hkl
        have HTL : Hid (l.take l.length = l) := Lib.hid (List.take_of_length_le (Nat.le_refl _))
        have HY : Hid (EncPR w l (.returned (.tuple #[y, .int .i64 0])) wr) := Lib.hid ⟨HB.out, .inl ⟨⟨h16, by have h := HT.out; rw [HTL.out] at h; exact h⟩, y, rfl, by have h := HO.out; rw [HTL.out] at h; exact h⟩⟩
        have hnlt : ¬ ((l.length : Int) < (l.length : Int)) := by omega
        clear hk hlt HO HT
        go_wp2_with fail
        go_ret2
        exact HY.out
  · have h16i : (16 : Int) < (l.length : Int) := by omega
    have HY : Hid (EncPR w l (.returned (.tuple #[.slice none 0 0, .int .i64 51])) w) := Lib.hid ⟨Below.refl _ _, .inr ⟨fun h => h16 h.1, rfl⟩⟩
    clear h16
    go_enter Tryz.func92, Tryz.ntmps92
    go_wp2_with fail
    go_ret2
    exact HY.out
/-- Encode at right values -/
def EncR (w : World) (l : List Val) (e : Ending) (w' : World) : Prop := ∃ v, e = .returned (.tuple #[v, .int .i64 0]) ∧ OwnB w' w.heap.size v (rowB l) ∧ Below w.heap.size w w'
theorem encodeR_right (l : List Val) (A : Option Addr) (n cap : Nat) (hn : n = l.length) (w : World) (hl : l.length ≤ 16) (hok : AllOk l) (hR : ∀ x ∈ l, x.R) (hr : RdV w w.heap.size A l) :
    Calls Tryz.prog 92 #[.slice A n cap] w (EncR w l) := by
  subst hn
  refine (encodeR_any l A cap w hok hr).mono fun e w' ⟨hb, h⟩ => ?_
  rcases h with ⟨_, v, he, ho⟩ | ⟨hno, _⟩
  · exact ⟨v, he, ho, hb⟩
  · exact absurd ⟨hl, fun x hx => (hR x hx).1⟩ hno
end

section
open Go.RowKit

/-- the pieces of a row -/
def chunksOf (r : List UInt8) : List (List UInt8) := (List.range ((r.length + 199) / 200)).map fun k => (r.drop (200 * k)).take 200
theorem chunksOf_len (r : List UInt8) : (chunksOf r).length = (r.length + 199) / 200 := by unfold chunksOf; rw [List.length_map, List.length_range]
theorem chunksOf_le {r : List UInt8} : ∀ x ∈ chunksOf r, x.length ≤ 200 := fun x hx => by
  unfold chunksOf at hx
  obtain ⟨k, _, rfl⟩ := List.mem_map.1 hx
  rw [List.length_take]
  omega
/-- a record: its kind, its transaction, its change -/
structure Rc where
  k : Int
  n : Int
  c : Ch
def numV (n : Int) : Val := ⟨2, n, ⟨#[]⟩⟩
def blobV (l : List UInt8) : Val := ⟨5, 0, strB l⟩
/-- is its row told? is its key? -/
def Rc.rowed (x : Rc) : Bool := decide (x.k = 1) || decide (x.k = 7)
def Rc.keyed (x : Rc) : Bool := x.rowed || decide (x.k = 2)
def Rc.vals (x : Rc) : List Val := [numV x.k, numV x.n] ++ ((if x.keyed then [⟨4, 0, strB x.c.s⟩, blobV x.c.k] else []) ++ (if x.rowed then (chunksOf x.c.r).map blobV else []))
def Rc.enc (x : Rc) : List UInt8 := rowB x.vals
/-- a record that is told -/
structure Rc.Ok (x : Rc) : Prop where
  k : 0 ≤ x.k ∧ x.k ≤ 8
  n : i64ok x.n
  len : x.c.s.length ≤ 32 ∧ x.c.k.length ≤ 200 ∧ x.c.r.length ≤ 2000
theorem numV_R {n : Int} (h : i64ok n) : (numV n).R := by
  refine ⟨?_, by unfold numV i64ok; simp only; omega, h⟩
  simp [rightB, numV]
theorem blobV_R {l : List UInt8} (h : l.length ≤ 200) : (blobV l).R := by
  have h2 : (strB l).size = l.length := strB_size l
  refine ⟨?_, by unfold blobV i64ok; simp only; omega, by unfold blobV i64ok; simp only; omega⟩
  simp [rightB, blobV, h2, h]
theorem textV_R {l : List UInt8} (h : l.length ≤ 200) : (⟨4, 0, strB l⟩ : Val).R := by
  have h2 : (strB l).size = l.length := strB_size l
  refine ⟨?_, by unfold i64ok; simp only; omega, by unfold i64ok; simp only; omega⟩
  simp [rightB, h2, h]
theorem Rc.vals_R {x : Rc} (h : x.Ok) : ∀ v ∈ x.vals, v.R := by
  intro v hv
  unfold Rc.vals at hv
  have hk : i64ok x.k := by have := h.k; unfold i64ok; omega
  rcases List.mem_append.1 hv with hv | hv
  · simp only [List.mem_cons, List.not_mem_nil, or_false] at hv
    rcases hv with rfl | rfl
    · exact numV_R hk
    · exact numV_R h.n
  · rcases List.mem_append.1 hv with hv | hv
    · split at hv
      · simp only [List.mem_cons, List.not_mem_nil, or_false] at hv
        rcases hv with rfl | rfl
        · exact textV_R (by have := h.len.1; omega)
        · exact blobV_R h.len.2.1
      · cases hv
    · split at hv
      · obtain ⟨l, hl, rfl⟩ := List.mem_map.1 hv
        exact blobV_R (chunksOf_le l hl)
      · cases hv
theorem R_all {l : List Val} (h : ∀ v ∈ l, v.R) : AllOk l := fun v hv => by
  have h1 := h v hv
  refine ⟨h1.2, ?_⟩
  rcases h1.cases with ⟨_, _, e⟩ | ⟨_, _, e⟩ | ⟨_, e, _⟩ | ⟨_, _, e⟩
  · rw [e]; decide
  · rw [e]; decide
  · rw [e]; decide
  · omega
theorem Rc.vals_len {x : Rc} (h : x.Ok) : x.vals.length ≤ 14 := by
  unfold Rc.vals
  have h1 := chunksOf_len x.c.r
  have h2 := h.len.2.2
  rw [List.length_append, List.length_append]
  have h3 : (if x.keyed then [(⟨4, 0, strB x.c.s⟩ : Val), blobV x.c.k] else []).length ≤ 2 := by split <;> simp
  have h4 : (if x.rowed then (chunksOf x.c.r).map blobV else []).length ≤ 10 := by
    split
    · rw [List.length_map, h1]; omega
    · simp
  simp only [List.length_cons, List.length_nil]
  omega
theorem Rc.enc_len {x : Rc} (h : x.Ok) : 1 ≤ x.enc.length ∧ x.enc.length ≤ 3000 := by
  have h1 := rowL_len (Rc.vals_R h)
  have h2 := Rc.vals_len h
  unfold Rc.enc rowB
  rw [List.length_cons]
  omega
/-- how many bytes a log has more -/
theorem bytes_one (r : List UInt8) : (bytesOf [r]).length = r.length + 5 := by rw [bytesOf_cons, List.length_append, frameL_len]; rfl
end
end Go.Proofs.YtkohppalfcalbaaGreat
