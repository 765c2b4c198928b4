/- Package row: a value's bytes, appended to a row of the call's own. -/
import Derived.Test.YtogogekmodbdiaaWC
import Derived.Test.YtogogekmodbdiaaKW
import Derived.Lib.AppendStr
namespace Go.Proofs.Ytogogekmodbdiaa
open Go.RowKit

/-- what the row's call that appends answers -/
def AppR (B : Nat) (w : World) (v : Value) (l : List UInt8) (e : Ending) (w' : World) : Prop := ∃ v', e = .returned v' ∧ OwnB w' B v' l ∧ w.grownBy w' v.ownBlock
theorem Grew.then {w w1 w2 : World} {v v1 : Value} (h : Grew w v w1 v1) (k : w1.grownBy w2 v1.ownBlock) : w.grownBy w2 v.ownBlock := by
  obtain ⟨g1, a1⟩ := h
  refine ⟨k.os.trans g1.os, k.tape.trans g1.tape, k.output.trans g1.output, Nat.le_trans g1.size k.size, fun b hb hne => ?_⟩
  have hb1 := g1.block b hb hne
  have hlt := g1.size
  refine (k.block b (by omega) (fun e => ?_)).trans hb1
  rcases a1 with a1 | a1
  · exact hne (e.trans a1)
  · have := a1 b e.symm
    omega
theorem grown_below {w w' : World} {B : Nat} {v : Value} (h : w.grownBy w' v.ownBlock) (hB : B ≤ w.heap.size) (hv : ∀ k, v.ownBlock = some k → B ≤ k) : Below B w w' :=
  ⟨h.os, h.tape, h.output, h.size, fun k hk => h.block k (by omega) (fun e => by have := hv k e.symm; omega)⟩
theorem box_ne {w w5 : World} {B : Nat} {v v5 : Value} {l : List UInt8} {o p : Obj} (h : OwnB w B v l) (hg : Grew ((w.alloc o).alloc p) v w5 v5) : v5.ownBlock ≠ some w.heap.size := fun e => by
  rcases hg.at_ with h1 | h1
  · have := h.lt _ (h1.symm.trans e)
    omega
  · have := h1 _ e
    simp at this
    omega
theorem strCells_bytesV (s : ByteArray) : Lib.strCells s = bytesV s.data.toList := rfl
/-- append of a string -/
theorem wpList_appS {P : Program} {w : World} {ops : Array Oper} {rest : List Oper} {o : Oper} {a : Act} {Q : Exit → Act → World → Prop} (hgd : o.guard = none) (s x : Operand) (t u : TypeId) (ho : o.op = .call { callee := .builtin .append, args := #[s, x], argTypes := #[t, u] })
    {i0 : TypeInfo} {B : Nat} (ht : P.underlying t = some (.slice 5)) (hu : P.underlying u = some .string) (hi : P.info? 5 = some i0) (hz : i0.zero = some (.int .u8 0)) (hs : i0.size = 1) (hb : i0.bytes = 1)
    {v : Value} {xs : List UInt8} (hv : a.eval s = v) (hown : OwnB w B v xs) {y : ByteArray} (hx : a.eval x = .string y) (h63 : xs.length + y.size ≤ 1000000) (hbase : B ≤ w.heap.size)
    (h : ∀ v' w', OwnB w' B v' (xs ++ y.data.toList) → w.grownBy w' v.ownBlock → wpList P ops Q rest (a.put o.dst v') w') : wpList P ops Q (o :: rest) a w := by
  refine Lib.wpList_append_own_string w hgd s x t u ho B 5 i0 ht hu hi hz hs hb v xs.length (bytesV xs) hv hown.1 y hx (by unfold maxLen; omega) (by omega) hbase fun v' w' h2 h3 _ => h v' w' ?_ h3
  rw [strCells_bytesV, ← bytesV_app] at h2
  exact OwnB.of_row h2
set_option maxRecDepth 100000 in
set_option maxHeartbeats 8000000 in
theorem appendValueR_any (B : Nat) (v : Value) (xs : List UInt8) (x : Val) (hR : x.R) (w : World) (hown : OwnB w B v xs) (hB : B ≤ w.heap.size) (hx : xs.length ≤ 9000) :
    Calls Try.prog 82 #[v, .agg #[.int .i64 x.k, .int .i64 x.n, .string x.s]] w (AppR B w v (xs ++ rowV x)) := by
  obtain ⟨i0, hi, hz0, hz1, hz2⟩ := info_parts info8
  obtain ⟨A, cap, hv, hcap⟩ := hown.2
  subst hv
  have hc := hR.cases
  obtain ⟨k, n, s⟩ := x
  simp only at hc
  have HO := Lib.hid hown
  have HX := Lib.hid hx
  have HB := Lib.hid hB
  have HBA := Lib.hid (alloc_below w (.cells #[.int .i64 k, .int .i64 n, .string s] 110))
  have HBX : Hid ((w.alloc (.cells #[.int .i64 k, .int .i64 n, .string s] 110)).heap[w.heap.size]? = some (.cells #[.int .i64 k, .int .i64 n, .string s] 110 (0, 0))) := Lib.hid (heap_alloc_new _ _)
  have HM1 : Hid (xs.length + 1 ≤ 1000000) := Lib.hid (by omega)
  have HBZ : Hid (∀ o p, B ≤ ((w.alloc o).alloc p).heap.size) := Lib.hid fun o p => by simp; omega
  clear hown hx hB hR
  rcases hc with ⟨rfl, rfl, rfl⟩ | ⟨rfl, hn, rfl⟩ | ⟨hk, rfl, hn⟩ | ⟨hk, rfl, hs⟩
  · go_enter Try.func82, Try.ntmps82
    go_wp2_with (first
      | (at_builtin
         have h1 := HO.out.below (alloc2_below w (.cells #[.int .i64 0, .int .i64 0, .string ⟨#[]⟩] 110) (.cells #[.int .u8 0] 5))
         have h2 := rd_one2 w (.cells #[.int .i64 0, .int .i64 0, .string ⟨#[]⟩] 110) 0 0 rfl
         refine wpList_appB (xs := xs) (ys := [0]) (B := B) rfl _ _ 56 rfl Try.underlying56 hi hz0 hz1 hz2 rfl h1 rfl rfl h2 HM1.out (HBZ.out _ _) ?_
         intro v5 w5 ho5 hg5
         have HO5 := Lib.hid ho5
         have HG5 := Lib.hid ((Grew.below (alloc2_below _ _ _)).trans hg5)
         have HX5 := Lib.hid (box_kept HO.out (by exact HBX.out) hg5)
         have HB5 : Hid (B ≤ w5.heap.size) := Lib.hid (Nat.le_trans HB.out HG5.out.by_.size)
         have HL5 : Hid ((xs ++ [0]).length ≤ 9001) := Lib.hid (by rw [List.length_append]; simp; exact HX.out)
         have HNE := Lib.hid (box_ne HO.out hg5)
         obtain ⟨x0, x1, x2⟩ := box3 HX5.out
         clear ho5 hg5 h1 h2)
      | fail)
    go_ret
    exact ⟨v5, rfl, HO5.out, HG5.out.by_⟩
  · rcases hn with rfl | rfl
    · go_enter Try.func82, Try.ntmps82
      go_wp2_with (first
        | (at_builtin
           refine wpList_appB (xs := xs ++ [1]) (ys := [0]) (B := B) rfl _ _ 56 rfl Try.underlying56 hi hz0 hz1 hz2 rfl (HO5.out.below (alloc_below _ _)) rfl rfl (rd_one _ _ 0 rfl) (by have := HL5.out; simp at this ⊢; omega) (Nat.le_trans HB5.out (alloc_below _ _).size) ?_
           intro v6 w6 ho6 hg6
           have HY : Hid (AppR B w (.slice A xs.length cap) (xs ++ rowV ⟨1, 0, ⟨#[]⟩⟩) (.returned v6) w6) := Lib.hid ⟨v6, rfl, by have h := ho6; rw [List.append_assoc] at h; exact h, (HG5.out.trans ((Grew.below (alloc_below _ _)).trans hg6)).by_⟩
           clear ho6 hg6)
        | (at_builtin
           have h1 := HO.out.below (alloc2_below w (.cells #[.int .i64 1, .int .i64 0, .string ⟨#[]⟩] 110) (.cells #[.int .u8 1] 5))
           have h2 := rd_one2 w (.cells #[.int .i64 1, .int .i64 0, .string ⟨#[]⟩] 110) 1 1 rfl
           refine wpList_appB (xs := xs) (ys := [1]) (B := B) rfl _ _ 56 rfl Try.underlying56 hi hz0 hz1 hz2 rfl h1 rfl rfl h2 HM1.out (HBZ.out _ _) ?_
           intro v5 w5 ho5 hg5
           have HO5 := Lib.hid ho5
           have HG5 := Lib.hid ((Grew.below (alloc2_below _ _ _)).trans hg5)
           have HX5 := Lib.hid (box_kept HO.out (by exact HBX.out) hg5)
           have HB5 : Hid (B ≤ w5.heap.size) := Lib.hid (Nat.le_trans HB.out HG5.out.by_.size)
           have HL5 : Hid ((xs ++ [1]).length ≤ 9001) := Lib.hid (by rw [List.length_append]; simp; exact HX.out)
           have HNE := Lib.hid (box_ne HO.out hg5)
           obtain ⟨x0, x1, x2⟩ := box3 HX5.out
           clear ho5 hg5 h1 h2)
        | fail)
      go_ret
      exact HY.out
    · go_enter Try.func82, Try.ntmps82
      go_wp2_with (first
        | (at_builtin
           refine wpList_appB (xs := xs ++ [1]) (ys := [1]) (B := B) rfl _ _ 56 rfl Try.underlying56 hi hz0 hz1 hz2 rfl (HO5.out.below (alloc_below _ _)) rfl rfl (rd_one _ _ 1 rfl) (by have := HL5.out; simp at this ⊢; omega) (Nat.le_trans HB5.out (alloc_below _ _).size) ?_
           intro v6 w6 ho6 hg6
           have HY : Hid (AppR B w (.slice A xs.length cap) (xs ++ rowV ⟨1, 1, ⟨#[]⟩⟩) (.returned v6) w6) := Lib.hid ⟨v6, rfl, by have h := ho6; rw [List.append_assoc] at h; exact h, (HG5.out.trans ((Grew.below (alloc_below _ _)).trans hg6)).by_⟩
           clear ho6 hg6)
        | (at_builtin
           have h1 := HO.out.below (alloc2_below w (.cells #[.int .i64 1, .int .i64 1, .string ⟨#[]⟩] 110) (.cells #[.int .u8 1] 5))
           have h2 := rd_one2 w (.cells #[.int .i64 1, .int .i64 1, .string ⟨#[]⟩] 110) 1 1 rfl
           refine wpList_appB (xs := xs) (ys := [1]) (B := B) rfl _ _ 56 rfl Try.underlying56 hi hz0 hz1 hz2 rfl h1 rfl rfl h2 HM1.out (HBZ.out _ _) ?_
           intro v5 w5 ho5 hg5
           have HO5 := Lib.hid ho5
           have HG5 := Lib.hid ((Grew.below (alloc2_below _ _ _)).trans hg5)
           have HX5 := Lib.hid (box_kept HO.out (by exact HBX.out) hg5)
           have HB5 : Hid (B ≤ w5.heap.size) := Lib.hid (Nat.le_trans HB.out HG5.out.by_.size)
           have HL5 : Hid ((xs ++ [1]).length ≤ 9001) := Lib.hid (by rw [List.length_append]; simp; exact HX.out)
           have HNE := Lib.hid (box_ne HO.out hg5)
           obtain ⟨x0, x1, x2⟩ := box3 HX5.out
           clear ho5 hg5 h1 h2)
        | fail)
      go_ret
      exact HY.out
  · have HN := Lib.hid hn
    clear hn
    rcases hk with rfl | rfl
    · go_enter Try.func82, Try.ntmps82
      go_wp2_with (first
        | (at_builtin
           refine wpList_appB (xs := xs ++ [2]) (ys := vL (zig n)) (B := B) rfl _ _ 56 rfl Try.underlying56 hi hz0 hz1 hz2 rfl HO5.out rfl rfl HO6.out (by have h1 := HL5.out; have h2 := vL_10 (zig_lt HN.out.1 HN.out.2); omega) HB6.out ?_
           intro v7 w7 ho7 hg7
           have HY : Hid (AppR B w (.slice A xs.length cap) (xs ++ rowV ⟨2, n, ⟨#[]⟩⟩) (.returned v7) w7) := Lib.hid ⟨v7, rfl, by have h := ho7; rw [List.append_assoc] at h; exact h, (HG6.out.trans hg7).by_⟩
           clear ho7 hg7)
        | (go_at_call 105; refine (short_any n HN.out _).mono ?_; rintro e w6 ⟨v6, rfl, ho6, hb6⟩
           obtain ⟨A6, cap6, hv6, hcap6⟩ := ho6.2
           subst hv6
           have HO6 := Lib.hid ho6.rd
           have HG6 := Lib.hid (HG5.out.trans (Grew.below (v := v5) hb6))
           have HO5 := Lib.hid (HO5.out.below hb6)
           have HB6 : Hid (B ≤ w6.heap.size) := Lib.hid (Nat.le_trans HB5.out hb6.size)
           clear ho6 hb6 hcap6)
        | (at_builtin
           have h1 := HO.out.below (alloc2_below w (.cells #[.int .i64 2, .int .i64 n, .string ⟨#[]⟩] 110) (.cells #[.int .u8 2] 5))
           have h2 := rd_one2 w (.cells #[.int .i64 2, .int .i64 n, .string ⟨#[]⟩] 110) 2 2 rfl
           refine wpList_appB (xs := xs) (ys := [2]) (B := B) rfl _ _ 56 rfl Try.underlying56 hi hz0 hz1 hz2 rfl h1 rfl rfl h2 HM1.out (HBZ.out _ _) ?_
           intro v5 w5 ho5 hg5
           have HO5 := Lib.hid ho5
           have HG5 := Lib.hid ((Grew.below (alloc2_below _ _ _)).trans hg5)
           have HX5 := Lib.hid (box_kept HO.out (by exact HBX.out) hg5)
           have HB5 : Hid (B ≤ w5.heap.size) := Lib.hid (Nat.le_trans HB.out HG5.out.by_.size)
           have HL5 : Hid ((xs ++ [2]).length ≤ 9001) := Lib.hid (by rw [List.length_append]; simp; exact HX.out)
           have HNE := Lib.hid (box_ne HO.out hg5)
           obtain ⟨x0, x1, x2⟩ := box3 HX5.out
           clear ho5 hg5 h1 h2)
        | fail)
      go_ret
      exact HY.out
    · go_enter Try.func82, Try.ntmps82
      go_wp2_with (first
        | (at_builtin
           refine wpList_appB (xs := xs ++ [3]) (ys := vL (zig n)) (B := B) rfl _ _ 56 rfl Try.underlying56 hi hz0 hz1 hz2 rfl HO5.out rfl rfl HO6.out (by have h1 := HL5.out; have h2 := vL_10 (zig_lt HN.out.1 HN.out.2); omega) HB6.out ?_
           intro v7 w7 ho7 hg7
           have HY : Hid (AppR B w (.slice A xs.length cap) (xs ++ rowV ⟨3, n, ⟨#[]⟩⟩) (.returned v7) w7) := Lib.hid ⟨v7, rfl, by have h := ho7; rw [List.append_assoc] at h; exact h, (HG6.out.trans hg7).by_⟩
           clear ho7 hg7)
        | (go_at_call 105; refine (short_any n HN.out _).mono ?_; rintro e w6 ⟨v6, rfl, ho6, hb6⟩
           obtain ⟨A6, cap6, hv6, hcap6⟩ := ho6.2
           subst hv6
           have HO6 := Lib.hid ho6.rd
           have HG6 := Lib.hid (HG5.out.trans (Grew.below (v := v5) hb6))
           have HO5 := Lib.hid (HO5.out.below hb6)
           have HB6 : Hid (B ≤ w6.heap.size) := Lib.hid (Nat.le_trans HB5.out hb6.size)
           clear ho6 hb6 hcap6)
        | (at_builtin
           have h1 := HO.out.below (alloc2_below w (.cells #[.int .i64 3, .int .i64 n, .string ⟨#[]⟩] 110) (.cells #[.int .u8 3] 5))
           have h2 := rd_one2 w (.cells #[.int .i64 3, .int .i64 n, .string ⟨#[]⟩] 110) 3 3 rfl
           refine wpList_appB (xs := xs) (ys := [3]) (B := B) rfl _ _ 56 rfl Try.underlying56 hi hz0 hz1 hz2 rfl h1 rfl rfl h2 HM1.out (HBZ.out _ _) ?_
           intro v5 w5 ho5 hg5
           have HO5 := Lib.hid ho5
           have HG5 := Lib.hid ((Grew.below (alloc2_below _ _ _)).trans hg5)
           have HX5 := Lib.hid (box_kept HO.out (by exact HBX.out) hg5)
           have HB5 : Hid (B ≤ w5.heap.size) := Lib.hid (Nat.le_trans HB.out HG5.out.by_.size)
           have HL5 : Hid ((xs ++ [3]).length ≤ 9001) := Lib.hid (by rw [List.length_append]; simp; exact HX.out)
           have HNE := Lib.hid (box_ne HO.out hg5)
           obtain ⟨x0, x1, x2⟩ := box3 HX5.out
           clear ho5 hg5 h1 h2)
        | fail)
      go_ret
      exact HY.out
  · have HS := Lib.hid hs
    have HN : Hid (i64ok (s.size : Int)) := Lib.hid (by unfold i64ok; omega)
    clear hs
    rcases hk with rfl | rfl
    · have HE : Hid (xs ++ [4] ++ vL (zig (s.size : Int)) ++ s.data.toList = xs ++ rowV ⟨4, 0, s⟩) := Lib.hid (by simp [rowV, bodyR])
      go_enter Try.func82, Try.ntmps82
      go_wp2_with (first
        | (at_builtin
           refine wpList_appS (xs := xs ++ [4] ++ vL (zig (s.size : Int))) (y := s) (B := B) rfl _ _ 56 9 rfl Try.underlying56 Try.underlying9 hi hz0 hz1 hz2 rfl HO7.out rfl (by have h1 := HL5.out; have h2 := vL_10 (zig_lt HN.out.1 HN.out.2); have h3 := HS.out; rw [List.length_append]; omega) HB7.out ?_
           intro v8 w8 ho8 hg8
           have HY : Hid (AppR B w (.slice A xs.length cap) (xs ++ rowV ⟨4, 0, s⟩) (.returned v8) w8) := Lib.hid ⟨v8, rfl, by have h := ho8; rw [HE.out] at h; exact h, HG7.out.then hg8⟩
           clear ho8 hg8)
        | (at_builtin
           refine wpList_appB (xs := xs ++ [4]) (ys := vL (zig (s.size : Int))) (B := B) rfl _ _ 56 rfl Try.underlying56 hi hz0 hz1 hz2 rfl HO5.out rfl rfl HO6.out (by have h1 := HL5.out; have h2 := vL_10 (zig_lt HN.out.1 HN.out.2); omega) HB6.out ?_
           intro v7 w7 ho7 hg7
           have HO7 := Lib.hid ho7
           have HG7 := Lib.hid (HG6.out.trans hg7)
           have HX7 := Lib.hid ((hg7.by_.block _ HZ5.out (fun e => HNE.out e.symm)).trans HX5.out)
           have HB7 : Hid (B ≤ w7.heap.size) := Lib.hid (Nat.le_trans HB6.out hg7.by_.size)
           obtain ⟨x0, x1, x2⟩ := box3 HX7.out
           clear ho7 hg7)
        | (go_at_call 105; refine (short_any (s.size : Int) HN.out _).mono ?_; rintro e w6 ⟨v6, rfl, ho6, hb6⟩
           obtain ⟨A6, cap6, hv6, hcap6⟩ := ho6.2
           subst hv6
           have HO6 := Lib.hid ho6.rd
           have HG6 := Lib.hid (HG5.out.trans (Grew.below (v := v5) hb6))
           have HO5 := Lib.hid (HO5.out.below hb6)
           have HB6 : Hid (B ≤ w6.heap.size) := Lib.hid (Nat.le_trans HB5.out hb6.size)
           have HX5 := Lib.hid ((hb6.block _ (Array.getElem?_eq_some_iff.1 HX5.out).1).trans HX5.out)
           obtain ⟨x0, x1, x2⟩ := box3 HX5.out
           have HZ5 := Lib.hid (Array.getElem?_eq_some_iff.1 HX5.out).1
           clear ho6 hb6 hcap6)
        | (at_builtin
           have h1 := HO.out.below (alloc2_below w (.cells #[.int .i64 4, .int .i64 0, .string s] 110) (.cells #[.int .u8 4] 5))
           have h2 := rd_one2 w (.cells #[.int .i64 4, .int .i64 0, .string s] 110) 4 4 rfl
           refine wpList_appB (xs := xs) (ys := [4]) (B := B) rfl _ _ 56 rfl Try.underlying56 hi hz0 hz1 hz2 rfl h1 rfl rfl h2 HM1.out (HBZ.out _ _) ?_
           intro v5 w5 ho5 hg5
           have HO5 := Lib.hid ho5
           have HG5 := Lib.hid ((Grew.below (alloc2_below _ _ _)).trans hg5)
           have HX5 := Lib.hid (box_kept HO.out (by exact HBX.out) hg5)
           have HB5 : Hid (B ≤ w5.heap.size) := Lib.hid (Nat.le_trans HB.out HG5.out.by_.size)
           have HL5 : Hid ((xs ++ [4]).length ≤ 9001) := Lib.hid (by rw [List.length_append]; simp; exact HX.out)
           have HNE := Lib.hid (box_ne HO.out hg5)
           obtain ⟨x0, x1, x2⟩ := box3 HX5.out
           clear ho5 hg5 h1 h2)
        | fail)
      go_ret
      exact HY.out
    · have HE : Hid (xs ++ [5] ++ vL (zig (s.size : Int)) ++ s.data.toList = xs ++ rowV ⟨5, 0, s⟩) := Lib.hid (by simp [rowV, bodyR])
      go_enter Try.func82, Try.ntmps82
      go_wp2_with (first
        | (at_builtin
           refine wpList_appS (xs := xs ++ [5] ++ vL (zig (s.size : Int))) (y := s) (B := B) rfl _ _ 56 9 rfl Try.underlying56 Try.underlying9 hi hz0 hz1 hz2 rfl HO7.out rfl (by have h1 := HL5.out; have h2 := vL_10 (zig_lt HN.out.1 HN.out.2); have h3 := HS.out; rw [List.length_append]; omega) HB7.out ?_
           intro v8 w8 ho8 hg8
           have HY : Hid (AppR B w (.slice A xs.length cap) (xs ++ rowV ⟨5, 0, s⟩) (.returned v8) w8) := Lib.hid ⟨v8, rfl, by have h := ho8; rw [HE.out] at h; exact h, HG7.out.then hg8⟩
           clear ho8 hg8)
        | (at_builtin
           refine wpList_appB (xs := xs ++ [5]) (ys := vL (zig (s.size : Int))) (B := B) rfl _ _ 56 rfl Try.underlying56 hi hz0 hz1 hz2 rfl HO5.out rfl rfl HO6.out (by have h1 := HL5.out; have h2 := vL_10 (zig_lt HN.out.1 HN.out.2); omega) HB6.out ?_
           intro v7 w7 ho7 hg7
           have HO7 := Lib.hid ho7
           have HG7 := Lib.hid (HG6.out.trans hg7)
           have HX7 := Lib.hid ((hg7.by_.block _ HZ5.out (fun e => HNE.out e.symm)).trans HX5.out)
           have HB7 : Hid (B ≤ w7.heap.size) := Lib.hid (Nat.le_trans HB6.out hg7.by_.size)
           obtain ⟨x0, x1, x2⟩ := box3 HX7.out
           clear ho7 hg7)
        | (go_at_call 105; refine (short_any (s.size : Int) HN.out _).mono ?_; rintro e w6 ⟨v6, rfl, ho6, hb6⟩
           obtain ⟨A6, cap6, hv6, hcap6⟩ := ho6.2
           subst hv6
           have HO6 := Lib.hid ho6.rd
           have HG6 := Lib.hid (HG5.out.trans (Grew.below (v := v5) hb6))
           have HO5 := Lib.hid (HO5.out.below hb6)
           have HB6 : Hid (B ≤ w6.heap.size) := Lib.hid (Nat.le_trans HB5.out hb6.size)
           have HX5 := Lib.hid ((hb6.block _ (Array.getElem?_eq_some_iff.1 HX5.out).1).trans HX5.out)
           obtain ⟨x0, x1, x2⟩ := box3 HX5.out
           have HZ5 := Lib.hid (Array.getElem?_eq_some_iff.1 HX5.out).1
           clear ho6 hb6 hcap6)
        | (at_builtin
           have h1 := HO.out.below (alloc2_below w (.cells #[.int .i64 5, .int .i64 0, .string s] 110) (.cells #[.int .u8 5] 5))
           have h2 := rd_one2 w (.cells #[.int .i64 5, .int .i64 0, .string s] 110) 5 5 rfl
           refine wpList_appB (xs := xs) (ys := [5]) (B := B) rfl _ _ 56 rfl Try.underlying56 hi hz0 hz1 hz2 rfl h1 rfl rfl h2 HM1.out (HBZ.out _ _) ?_
           intro v5 w5 ho5 hg5
           have HO5 := Lib.hid ho5
           have HG5 := Lib.hid ((Grew.below (alloc2_below _ _ _)).trans hg5)
           have HX5 := Lib.hid (box_kept HO.out (by exact HBX.out) hg5)
           have HB5 : Hid (B ≤ w5.heap.size) := Lib.hid (Nat.le_trans HB.out HG5.out.by_.size)
           have HL5 : Hid ((xs ++ [5]).length ≤ 9001) := Lib.hid (by rw [List.length_append]; simp; exact HX.out)
           have HNE := Lib.hid (box_ne HO.out hg5)
           obtain ⟨x0, x1, x2⟩ := box3 HX5.out
           clear ho5 hg5 h1 h2)
        | fail)
      go_ret
      exact HY.out
end Go.Proofs.Ytogogekmodbdiaa
