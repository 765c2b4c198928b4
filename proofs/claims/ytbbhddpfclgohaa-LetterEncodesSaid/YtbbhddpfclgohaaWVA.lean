/- The document's take, by kind. -/
import Derived.Test.YtbbhddpfclgohaaWV
namespace Go.Proofs.Ytbbhddpfclgohaa
open Go.RowKit

theorem i64_0 : i64ok 0 := by unfold i64ok; decide
theorem i64_1 : i64ok 1 := by unfold i64ok; decide
theorem refLong_yes (u : Nat) (r l : List UInt8) (hl : l = vL u ++ r) (hu : u < 18446744073709551616) (A : Option Addr) (n cap : Nat) (hn : n = l.length) (h100 : l.length ≤ 100000) (w : World) (hcap : l.length ≤ cap) (hr : RdB w w.heap.size A l) :
    Calls Try.prog 44 #[.slice A n cap] w (Ans (.tuple #[.int .i64 (zag u), .int .i64 ((vL u).length : Int), .bool true]) w) := by
  subst hn
  refine (refLong_any l A cap w h100 hcap hr).mono fun e w' ⟨hb, h⟩ => ?_
  rcases h with ⟨v, s, _, h2, rfl⟩ | ⟨h, _⟩
  · obtain ⟨rfl, _⟩ := vL_inj (h2.symm.trans hl)
    exact ⟨rfl, hb⟩
  · exact absurd hl (h u r hu)
theorem refLong_no (l : List UInt8) (hno : ∀ u r, u < 18446744073709551616 → l ≠ vL u ++ r) (A : Option Addr) (n cap : Nat) (hn : n = l.length) (h100 : l.length ≤ 100000) (w : World) (hcap : l.length ≤ cap) (hr : RdB w w.heap.size A l) :
    Calls Try.prog 44 #[.slice A n cap] w (Ans (.tuple #[.int .i64 0, .int .i64 0, .bool false]) w) := by
  subst hn
  refine (refLong_any l A cap w h100 hcap hr).mono fun e w' ⟨hb, h⟩ => ?_
  rcases h with ⟨v, s, hv, h2, _⟩ | ⟨_, rfl⟩
  · exact absurd h2 (hno v s hv)
  · exact ⟨rfl, hb⟩
set_option maxRecDepth 100000 in
set_option maxHeartbeats 8000000 in
theorem tk_nil (A : Option Addr) (cap : Nat) (w : World) : Calls Try.prog 35 #[.slice A 0 cap] w (TkT w ([])) := by
  have HY : Hid (∀ W, Below w.heap.size w W → TkT w ([]) (.returned (.tuple #[.agg #[.int .i64 0, .int .i64 0, .string ⟨#[]⟩], .int .i64 0])) W) := Lib.hid fun W hW => ⟨hW, ⟨0, 0, ⟨#[]⟩⟩, 0, rfl, ⟨by unfold i64ok; decide, by unfold i64ok; decide⟩, by exact Nat.zero_le _, Nat.le_refl _, fun y r _ e => absurd e (rowR_none y r)⟩
  have HB := Lib.hid (alloc_below w (.cells #[.int .i64 0, .int .i64 0, .string ⟨#[]⟩] 45))
  go_enter Try.func35, Try.ntmps35
  go_wp2_with fail
  refine bodyPost_ret (v := .tuple #[.agg #[.int .i64 0, .int .i64 0, .string ⟨#[]⟩], .int .i64 0]) (by simp [results, Try.results35, go_sem]) rfl ?_
  exact HY.out _ HB.out
set_option maxRecDepth 100000 in
set_option maxHeartbeats 8000000 in
theorem tk_0 (t : List UInt8) (ad : Addr) (cap : Nat) (w : World) (x0 : w.cell? ad = some (.int .u8 (0 : UInt8).toNat)) (hab : ad.block < w.heap.size) : Calls Try.prog 35 #[.slice (some ad) (t.length + 1) cap] w (TkT w (0 :: t)) := by
  have hti : (0 : Int) < (t.length : Int) + 1 := by omega
  have htb : ((t.length : Int) + 1 == 0) = false := beq_false_of_ne (by omega)
  have HY : Hid (∀ W, Below w.heap.size w W → TkT w (0 :: t) (.returned (.tuple #[.agg #[.int .i64 0, .int .i64 0, .string ⟨#[]⟩], .int .i64 1])) W) := Lib.hid fun W hW => ⟨hW, ⟨0, 0, ⟨#[]⟩⟩, 1, rfl, ⟨by unfold i64ok; decide, by unfold i64ok; decide⟩, by exact Nat.zero_le _, by simp, fun y r hy e => by
    obtain ⟨h1, h2⟩ := rowV_inj (u := t) (row_0 []).1 hy (((row_0 t).2).symm.trans e)
    subst h1
    exact ⟨rfl, rfl⟩⟩
  have HT := Lib.hid (TB.new w 0 0 ⟨#[]⟩ 0 0 ⟨#[]⟩)
  obtain ⟨f0, f1, f2⟩ := HT.out.frozA
  obtain ⟨g0, g1, g2⟩ := HT.out.frozB
  obtain ⟨y0, y1, y2⟩ := HT.out.cells
  obtain ⟨r0, r1, r2⟩ := HT.out.res
  go_enter Try.func35, Try.ntmps35
  go_wp2_with fail
  refine bodyPost_ret (v := .tuple #[.agg #[.int .i64 0, .int .i64 0, .string ⟨#[]⟩], .int .i64 1]) (by simp [results, Try.results35, go_sem]) rfl ?_
  exact HY.out _ (alloc2_below _ _ _)
set_option maxRecDepth 100000 in
set_option maxHeartbeats 8000000 in
theorem tk_x (c : UInt8) (t : List UInt8) (ad : Addr) (cap : Nat) (w : World) (x0 : w.cell? ad = some (.int .u8 (c : UInt8).toNat)) (hab : ad.block < w.heap.size) (hc5 : 5 < c.toNat) : Calls Try.prog 35 #[.slice (some ad) (t.length + 1) cap] w (TkT w (c :: t)) := by
  have hti : (0 : Int) < (t.length : Int) + 1 := by omega
  have htb : ((t.length : Int) + 1 == 0) = false := beq_false_of_ne (by omega)
  obtain ⟨x, HXC⟩ : ∃ x : Int, Hid (x = (c.toNat : Int)) := ⟨_, Lib.hid rfl⟩
  rw [← HXC.out] at x0
  have hx5 : 5 < x := by rw [HXC.out]; omega
  have hx9 : x < 256 := by have := c.toNat_lt; rw [HXC.out]; omega
  have hw : wrap64 x = x := by unfold wrap64; omega
  have e0 : (x == 0) = false := beq_false_of_ne (by omega)
  have e1 : (x == 1) = false := beq_false_of_ne (by omega)
  have e2 : (x == 2) = false := beq_false_of_ne (by omega)
  have e3 : (x == 3) = false := beq_false_of_ne (by omega)
  have e4 : (x == 4) = false := beq_false_of_ne (by omega)
  have e5 : (x == 5) = false := beq_false_of_ne (by omega)
  have HXO : Hid (i64ok x) := Lib.hid (by unfold i64ok; omega)
  clear hx5 hx9
  have HY : Hid (∀ W, Below w.heap.size w W → TkT w (c :: t) (.returned (.tuple #[.agg #[.int .i64 x, .int .i64 0, .string ⟨#[]⟩], .int .i64 0])) W) := Lib.hid fun W hW => ⟨hW, ⟨x, 0, ⟨#[]⟩⟩, 0, rfl, ⟨HXO.out, i64_0⟩, by exact Nat.zero_le _, Nat.zero_le _, fun y r hy e => absurd e (rowR_kind hc5 y r hy)⟩
  have HT := Lib.hid (TB.new w 0 0 ⟨#[]⟩ x 0 ⟨#[]⟩)
  obtain ⟨f0, f1, f2⟩ := HT.out.frozA
  obtain ⟨g0, g1, g2⟩ := HT.out.frozB
  obtain ⟨y0, y1, y2⟩ := HT.out.cells
  obtain ⟨r0, r1, r2⟩ := HT.out.res
  go_enter Try.func35, Try.ntmps35
  go_wp2_with fail
  refine bodyPost_ret (v := .tuple #[.agg #[.int .i64 x, .int .i64 0, .string ⟨#[]⟩], .int .i64 0]) (by simp [results, Try.results35, go_sem]) rfl ?_
  exact HY.out _ (alloc2_below _ _ _)
set_option maxRecDepth 100000 in
set_option maxHeartbeats 8000000 in
theorem tk_1n (ad : Addr) (cap : Nat) (w : World) (x0 : w.cell? ad = some (.int .u8 (1 : UInt8).toNat)) (hab : ad.block < w.heap.size) : Calls Try.prog 35 #[.slice (some ad) 1 cap] w (TkT w ([1])) := by
  have HY : Hid (∀ W, Below w.heap.size w W → TkT w ([1]) (.returned (.tuple #[.agg #[.int .i64 1, .int .i64 0, .string ⟨#[]⟩], .int .i64 0])) W) := Lib.hid fun W hW => ⟨hW, ⟨1, 0, ⟨#[]⟩⟩, 0, rfl, ⟨by unfold i64ok; decide, by unfold i64ok; decide⟩, by exact Nat.zero_le _, Nat.zero_le _, fun y r hy e => absurd e (row_1n y r hy)⟩
  have HT := Lib.hid (TB.new w 0 0 ⟨#[]⟩ 1 0 ⟨#[]⟩)
  obtain ⟨f0, f1, f2⟩ := HT.out.frozA
  obtain ⟨g0, g1, g2⟩ := HT.out.frozB
  obtain ⟨y0, y1, y2⟩ := HT.out.cells
  obtain ⟨r0, r1, r2⟩ := HT.out.res
  go_enter Try.func35, Try.ntmps35
  go_wp2_with fail
  refine bodyPost_ret (v := .tuple #[.agg #[.int .i64 1, .int .i64 0, .string ⟨#[]⟩], .int .i64 0]) (by simp [results, Try.results35, go_sem]) rfl ?_
  exact HY.out _ (alloc2_below _ _ _)
set_option maxRecDepth 100000 in
set_option maxHeartbeats 8000000 in
theorem tk_1c (d : UInt8) (t : List UInt8) (ad : Addr) (cap : Nat) (w : World) (x0 : w.cell? ad = some (.int .u8 (1 : UInt8).toNat)) (hab : ad.block < w.heap.size) (x1 : w.cell? (ad.add 1) = some (.int .u8 (d.toNat : Int))) : Calls Try.prog 35 #[.slice (some ad) (t.length + 1 + 1) cap] w (TkT w (1 :: d :: t)) := by
  obtain ⟨ab, ao, asp⟩ := ad
  have hsp : asp = none := World.cell?_spot x0
  subst hsp
  rw [Addr.add_lit] at x1
  have hab' : ab < w.heap.size := hab
  have hti : (0 : Int) < (t.length : Int) + 1 + 1 := by omega
  have hti2 : (1 : Int) < (t.length : Int) + 1 + 1 := by omega
  have htb : ((t.length : Int) + 1 + 1 == 0) = false := beq_false_of_ne (by omega)
  obtain ⟨x, HXC⟩ : ∃ x : Int, Hid (x = (d.toNat : Int)) := ⟨_, Lib.hid rfl⟩
  rw [← HXC.out] at x1
  have hN : wrap64 x = x := by have := d.toNat_lt; rw [HXC.out]; unfold wrap64; omega
  have HXO : Hid (i64ok x) := Lib.hid (by have := d.toNat_lt; rw [HXC.out]; unfold i64ok; omega)
  have HY : Hid (∀ W, Below w.heap.size w W → TkT w (1 :: d :: t) (.returned (.tuple #[.agg #[.int .i64 1, .int .i64 x, .string ⟨#[]⟩], .int .i64 2])) W) := Lib.hid fun W hW => ⟨hW, ⟨1, x, ⟨#[]⟩⟩, 2, rfl, ⟨i64_1, HXO.out⟩, by exact Nat.zero_le _, by simp, fun y r hy e => by
    by_cases hd : d.toNat ≤ 1
    · obtain ⟨h1, h2⟩ := rowV_inj (u := t) (row_1y hd []).1 hy (((row_1y hd t).2).symm.trans e)
      subst h1
      rw [HXC.out]
      exact ⟨rfl, rfl⟩
    · exact absurd e (row_1b (by omega) y r hy)⟩
  have HT := Lib.hid (TB.new w 0 0 ⟨#[]⟩ 1 0 ⟨#[]⟩)
  obtain ⟨f0, f1, f2⟩ := HT.out.frozA
  obtain ⟨g0, g1, g2⟩ := HT.out.frozB
  obtain ⟨y0, y1, y2⟩ := HT.out.cells
  obtain ⟨r0, r1, r2⟩ := HT.out.res
  go_enter Try.func35, Try.ntmps35
  go_wp2_with fail
  refine bodyPost_ret (v := .tuple #[.agg #[.int .i64 1, .int .i64 x, .string ⟨#[]⟩], .int .i64 2]) (by simp [results, Try.results35, go_sem]) rfl ?_
  exact HY.out _ (alloc2_below _ _ _)
set_option maxRecDepth 100000 in
set_option maxHeartbeats 8000000 in
theorem tk_2o (ad : Addr) (w : World) (x0 : w.cell? ad = some (.int .u8 (2 : UInt8).toNat)) (hab : ad.block < w.heap.size) : Calls Try.prog 35 #[.slice (some ad) 1 1] w (TkT w ([2])) := by
  have HY : Hid (∀ W, Below w.heap.size w W → TkT w ([2]) (.returned (.tuple #[.agg #[.int .i64 2, .int .i64 0, .string ⟨#[]⟩], .int .i64 0])) W) := Lib.hid fun W hW => ⟨hW, ⟨2, 0, ⟨#[]⟩⟩, 0, rfl, ⟨by unfold i64ok; decide, by unfold i64ok; decide⟩, by exact Nat.zero_le _, Nat.zero_le _, fun y r hy e => absurd e (row_numn (c := 2) (t := []) (by decide) (fun u r _ => vL_none Mor.nil) y r hy)⟩
  have LG : Hid (∀ W, Below w.heap.size w W → Calls Try.prog 44 #[.slice (some ad) 0 0] W (Ans (.tuple #[.int .i64 0, .int .i64 0, .bool false]) W)) := Lib.hid fun W hb => refLong_no [] (fun u r _ => vL_none Mor.nil) _ 0 _ rfl (by decide) W (Nat.zero_le _) (RdB.nil _ _ _)
  have HT := Lib.hid (TB.new w 0 0 ⟨#[]⟩ 2 0 ⟨#[]⟩)
  obtain ⟨f0, f1, f2⟩ := HT.out.frozA
  obtain ⟨g0, g1, g2⟩ := HT.out.frozB
  obtain ⟨y0, y1, y2⟩ := HT.out.cells
  obtain ⟨r0, r1, r2⟩ := HT.out.res
  go_enter Try.func35, Try.ntmps35
  go_wp2_with fail
  refine (LG.out _ HT.out.bel).mono ?_
  rintro e w2 ⟨rfl, hb2⟩
  have HT := Lib.hid (HT.out.keep hb2)
  obtain ⟨f0, f1, f2⟩ := HT.out.frozA
  obtain ⟨g0, g1, g2⟩ := HT.out.frozB
  obtain ⟨y0, y1, y2⟩ := HT.out.cells
  obtain ⟨r0, r1, r2⟩ := HT.out.res
  clear hb2
  go_wp2_with fail
  all_goals first
    | (obtain ⟨z0, z1, z2⟩ := (HT.out.put 2 0 ⟨#[]⟩).res
       refine bodyPost_ret (v := .tuple #[.agg #[.int .i64 2, .int .i64 0, .string ⟨#[]⟩], .int .i64 0]) (by simp [results, Try.results35, go_sem, z0, z1, z2]) rfl ?_
       exact HY.out _ (HT.out.put 2 0 ⟨#[]⟩).bel)
    | (refine bodyPost_ret (v := .tuple #[.agg #[.int .i64 2, .int .i64 0, .string ⟨#[]⟩], .int .i64 0]) (by simp [results, Try.results35, go_sem]) rfl ?_
       exact HY.out _ (alloc2_below _ _ _))
    | fail
set_option maxRecDepth 100000 in
set_option maxHeartbeats 8000000 in
theorem tk_2n (t : List UInt8) (ad : Addr) (cap : Nat) (w : World) (x0 : w.cell? ad = some (.int .u8 (2 : UInt8).toNat)) (hab : ad.block < w.heap.size) (hcap : t.length + 1 ≤ cap) (h1 : ¬ cap = 1) (hl : t.length + 1 ≤ 100000) (hr : RdB w w.heap.size (some (ad.add 1)) t) (hno : ∀ u r, u < 18446744073709551616 → t ≠ vL u ++ r) : Calls Try.prog 35 #[.slice (some ad) (t.length + 1) cap] w (TkT w (2 :: t)) := by
  have hti : (0 : Int) < (t.length : Int) + 1 := by omega
  have htb : ((t.length : Int) + 1 == 0) = false := beq_false_of_ne (by omega)
  have h1i : (1 : Int) ≤ (t.length : Int) + 1 := by omega
  have HY : Hid (∀ W, Below w.heap.size w W → TkT w (2 :: t) (.returned (.tuple #[.agg #[.int .i64 2, .int .i64 0, .string ⟨#[]⟩], .int .i64 0])) W) := Lib.hid fun W hW => ⟨hW, ⟨2, 0, ⟨#[]⟩⟩, 0, rfl, ⟨by unfold i64ok; decide, by unfold i64ok; decide⟩, by exact Nat.zero_le _, Nat.zero_le _, fun y r hy e => absurd e (row_numn (c := 2) (by decide) hno y r hy)⟩
  have LG : Hid (∀ W, Below w.heap.size w W → Calls Try.prog 44 #[.slice (some (ad.add 1)) t.length (cap - 1)] W (Ans (.tuple #[.int .i64 0, .int .i64 0, .bool false]) W)) := Lib.hid fun W hb => refLong_no t hno _ _ _ rfl (by omega) W (by omega) ((hr.below hb (Nat.le_refl _)).more hb.size)
  have HT := Lib.hid (TB.new w 0 0 ⟨#[]⟩ 2 0 ⟨#[]⟩)
  obtain ⟨f0, f1, f2⟩ := HT.out.frozA
  obtain ⟨g0, g1, g2⟩ := HT.out.frozB
  obtain ⟨y0, y1, y2⟩ := HT.out.cells
  obtain ⟨r0, r1, r2⟩ := HT.out.res
  clear hcap hl hr hno
  go_enter Try.func35, Try.ntmps35
  go_wp2_with fail
  refine (LG.out _ HT.out.bel).mono ?_
  rintro e w2 ⟨rfl, hb2⟩
  have HT := Lib.hid (HT.out.keep hb2)
  obtain ⟨f0, f1, f2⟩ := HT.out.frozA
  obtain ⟨g0, g1, g2⟩ := HT.out.frozB
  obtain ⟨y0, y1, y2⟩ := HT.out.cells
  obtain ⟨r0, r1, r2⟩ := HT.out.res
  clear hb2
  go_wp2_with fail
  all_goals first
    | (obtain ⟨z0, z1, z2⟩ := (HT.out.put 2 0 ⟨#[]⟩).res
       refine bodyPost_ret (v := .tuple #[.agg #[.int .i64 2, .int .i64 0, .string ⟨#[]⟩], .int .i64 0]) (by simp [results, Try.results35, go_sem, z0, z1, z2]) rfl ?_
       exact HY.out _ (HT.out.put 2 0 ⟨#[]⟩).bel)
    | (refine bodyPost_ret (v := .tuple #[.agg #[.int .i64 2, .int .i64 0, .string ⟨#[]⟩], .int .i64 0]) (by simp [results, Try.results35, go_sem]) rfl ?_
       exact HY.out _ (alloc2_below _ _ _))
    | fail
set_option maxRecDepth 100000 in
set_option maxHeartbeats 8000000 in
theorem tk_2y (u : Nat) (r t : List UInt8) (ad : Addr) (cap : Nat) (w : World) (x0 : w.cell? ad = some (.int .u8 (2 : UInt8).toNat)) (hab : ad.block < w.heap.size) (hcap : t.length + 1 ≤ cap) (h1 : ¬ cap = 1) (hl : t.length + 1 ≤ 100000) (hr : RdB w w.heap.size (some (ad.add 1)) t) (ht : t = vL u ++ r) (hu : u < 18446744073709551616) : Calls Try.prog 35 #[.slice (some ad) (t.length + 1) cap] w (TkT w (2 :: t)) := by
  have hti : (0 : Int) < (t.length : Int) + 1 := by omega
  have htb : ((t.length : Int) + 1 == 0) = false := beq_false_of_ne (by omega)
  have h1i : (1 : Int) ≤ (t.length : Int) + 1 := by omega
  obtain ⟨n, HN⟩ : ∃ n : Int, Hid (n = zag u) := ⟨_, Lib.hid rfl⟩
  obtain ⟨L, HLL⟩ : ∃ L : Nat, Hid (L = (vL u).length) := ⟨_, Lib.hid rfl⟩
  have hL10 : (L : Int) ≤ 10 := by have := vL_10 hu; have := HLL.out; omega
  have HRN : Hid (Val.R ⟨2, n, ⟨#[]⟩⟩ ∧ 2 :: t = rowV ⟨2, n, ⟨#[]⟩⟩ ++ r) := Lib.hid (by rw [HN.out, ht]; exact row_num (c := 2) (by decide) hu r)
  have HRL : Hid ((rowV ⟨2, n, ⟨#[]⟩⟩).length = L + 1) := Lib.hid (by
    have h2 := congrArg List.length HRN.out.2
    have h3 := congrArg List.length ht
    rw [List.length_append, List.length_cons] at h2
    rw [List.length_append] at h3
    have := HLL.out
    omega)
  have HY : Hid (∀ W, Below w.heap.size w W → ∀ s : Int, s = 1 + (L : Int) → TkT w (2 :: t) (.returned (.tuple #[.agg #[.int .i64 2, .int .i64 n, .string ⟨#[]⟩], .int .i64 s])) W) := Lib.hid fun W hW s hs => ⟨hW, ⟨2, n, ⟨#[]⟩⟩, L + 1, by rw [hs]; congr 3; simp [Val.v]; omega, HRN.out.1.2, by exact Nat.zero_le _, by have h3 := congrArg List.length ht; rw [List.length_append] at h3; have := HLL.out; rw [List.length_cons]; omega, fun y r' hy e => by
    obtain ⟨h1, _⟩ := rowV_inj HRN.out.1 hy (HRN.out.2.symm.trans e)
    subst h1
    exact ⟨rfl, HRL.out.symm⟩⟩
  have LG : Hid (∀ W, Below w.heap.size w W → Calls Try.prog 44 #[.slice (some (ad.add 1)) t.length (cap - 1)] W (Ans (.tuple #[.int .i64 n, .int .i64 (L : Int), .bool true]) W)) := Lib.hid fun W hb => by rw [HN.out, HLL.out]; exact refLong_yes u r t ht hu _ _ _ rfl (by omega) W (by omega) ((hr.below hb (Nat.le_refl _)).more hb.size)
  have HT := Lib.hid (TB.new w 0 0 ⟨#[]⟩ 2 0 ⟨#[]⟩)
  obtain ⟨f0, f1, f2⟩ := HT.out.frozA
  obtain ⟨g0, g1, g2⟩ := HT.out.frozB
  obtain ⟨y0, y1, y2⟩ := HT.out.cells
  obtain ⟨r0, r1, r2⟩ := HT.out.res
  clear hcap hl hr hu ht
  go_enter Try.func35, Try.ntmps35
  go_wp2_with fail
  refine (LG.out _ HT.out.bel).mono ?_
  rintro e w2 ⟨rfl, hb2⟩
  have HT := Lib.hid (HT.out.keep hb2)
  obtain ⟨f0, f1, f2⟩ := HT.out.frozA
  obtain ⟨g0, g1, g2⟩ := HT.out.frozB
  obtain ⟨y0, y1, y2⟩ := HT.out.cells
  obtain ⟨r0, r1, r2⟩ := HT.out.res
  clear hb2
  go_wp2_with fail
  all_goals first
    | (obtain ⟨z0, z1, z2⟩ := ((HT.out.b1 n).put 2 n ⟨#[]⟩).res
       refine bodyPost_ret (v := .tuple #[.agg #[.int .i64 2, .int .i64 n, .string ⟨#[]⟩], .int .i64 (1 + (L : Int))]) (by simp [results, Try.results35, go_sem, z0, z1, z2]) rfl ?_
       exact HY.out _ ((HT.out.b1 n).put 2 n ⟨#[]⟩).bel _ rfl)
    | (refine bodyPost_ret (v := .tuple #[.agg #[.int .i64 2, .int .i64 n, .string ⟨#[]⟩], .int .i64 (1 + (L : Int))]) (by simp [results, Try.results35, go_sem]) rfl ?_
       exact HY.out _ (alloc2_below _ _ _) _ rfl)
    | fail
set_option maxRecDepth 100000 in
set_option maxHeartbeats 8000000 in
theorem tk_3o (ad : Addr) (w : World) (x0 : w.cell? ad = some (.int .u8 (3 : UInt8).toNat)) (hab : ad.block < w.heap.size) : Calls Try.prog 35 #[.slice (some ad) 1 1] w (TkT w ([3])) := by
  have HY : Hid (∀ W, Below w.heap.size w W → TkT w ([3]) (.returned (.tuple #[.agg #[.int .i64 3, .int .i64 0, .string ⟨#[]⟩], .int .i64 0])) W) := Lib.hid fun W hW => ⟨hW, ⟨3, 0, ⟨#[]⟩⟩, 0, rfl, ⟨by unfold i64ok; decide, by unfold i64ok; decide⟩, by exact Nat.zero_le _, Nat.zero_le _, fun y r hy e => absurd e (row_numn (c := 3) (t := []) (by decide) (fun u r _ => vL_none Mor.nil) y r hy)⟩
  have LG : Hid (∀ W, Below w.heap.size w W → Calls Try.prog 44 #[.slice (some ad) 0 0] W (Ans (.tuple #[.int .i64 0, .int .i64 0, .bool false]) W)) := Lib.hid fun W hb => refLong_no [] (fun u r _ => vL_none Mor.nil) _ 0 _ rfl (by decide) W (Nat.zero_le _) (RdB.nil _ _ _)
  have HT := Lib.hid (TB.new w 0 0 ⟨#[]⟩ 3 0 ⟨#[]⟩)
  obtain ⟨f0, f1, f2⟩ := HT.out.frozA
  obtain ⟨g0, g1, g2⟩ := HT.out.frozB
  obtain ⟨y0, y1, y2⟩ := HT.out.cells
  obtain ⟨r0, r1, r2⟩ := HT.out.res
  go_enter Try.func35, Try.ntmps35
  go_wp2_with fail
  refine (LG.out _ HT.out.bel).mono ?_
  rintro e w2 ⟨rfl, hb2⟩
  have HT := Lib.hid (HT.out.keep hb2)
  obtain ⟨f0, f1, f2⟩ := HT.out.frozA
  obtain ⟨g0, g1, g2⟩ := HT.out.frozB
  obtain ⟨y0, y1, y2⟩ := HT.out.cells
  obtain ⟨r0, r1, r2⟩ := HT.out.res
  clear hb2
  go_wp2_with fail
  all_goals first
    | (obtain ⟨z0, z1, z2⟩ := (HT.out.put 3 0 ⟨#[]⟩).res
       refine bodyPost_ret (v := .tuple #[.agg #[.int .i64 3, .int .i64 0, .string ⟨#[]⟩], .int .i64 0]) (by simp [results, Try.results35, go_sem, z0, z1, z2]) rfl ?_
       exact HY.out _ (HT.out.put 3 0 ⟨#[]⟩).bel)
    | (refine bodyPost_ret (v := .tuple #[.agg #[.int .i64 3, .int .i64 0, .string ⟨#[]⟩], .int .i64 0]) (by simp [results, Try.results35, go_sem]) rfl ?_
       exact HY.out _ (alloc2_below _ _ _))
    | fail
set_option maxRecDepth 100000 in
set_option maxHeartbeats 8000000 in
theorem tk_3n (t : List UInt8) (ad : Addr) (cap : Nat) (w : World) (x0 : w.cell? ad = some (.int .u8 (3 : UInt8).toNat)) (hab : ad.block < w.heap.size) (hcap : t.length + 1 ≤ cap) (h1 : ¬ cap = 1) (hl : t.length + 1 ≤ 100000) (hr : RdB w w.heap.size (some (ad.add 1)) t) (hno : ∀ u r, u < 18446744073709551616 → t ≠ vL u ++ r) : Calls Try.prog 35 #[.slice (some ad) (t.length + 1) cap] w (TkT w (3 :: t)) := by
  have hti : (0 : Int) < (t.length : Int) + 1 := by omega
  have htb : ((t.length : Int) + 1 == 0) = false := beq_false_of_ne (by omega)
  have h1i : (1 : Int) ≤ (t.length : Int) + 1 := by omega
  have HY : Hid (∀ W, Below w.heap.size w W → TkT w (3 :: t) (.returned (.tuple #[.agg #[.int .i64 3, .int .i64 0, .string ⟨#[]⟩], .int .i64 0])) W) := Lib.hid fun W hW => ⟨hW, ⟨3, 0, ⟨#[]⟩⟩, 0, rfl, ⟨by unfold i64ok; decide, by unfold i64ok; decide⟩, by exact Nat.zero_le _, Nat.zero_le _, fun y r hy e => absurd e (row_numn (c := 3) (by decide) hno y r hy)⟩
  have LG : Hid (∀ W, Below w.heap.size w W → Calls Try.prog 44 #[.slice (some (ad.add 1)) t.length (cap - 1)] W (Ans (.tuple #[.int .i64 0, .int .i64 0, .bool false]) W)) := Lib.hid fun W hb => refLong_no t hno _ _ _ rfl (by omega) W (by omega) ((hr.below hb (Nat.le_refl _)).more hb.size)
  have HT := Lib.hid (TB.new w 0 0 ⟨#[]⟩ 3 0 ⟨#[]⟩)
  obtain ⟨f0, f1, f2⟩ := HT.out.frozA
  obtain ⟨g0, g1, g2⟩ := HT.out.frozB
  obtain ⟨y0, y1, y2⟩ := HT.out.cells
  obtain ⟨r0, r1, r2⟩ := HT.out.res
  clear hcap hl hr hno
  go_enter Try.func35, Try.ntmps35
  go_wp2_with fail
  refine (LG.out _ HT.out.bel).mono ?_
  rintro e w2 ⟨rfl, hb2⟩
  have HT := Lib.hid (HT.out.keep hb2)
  obtain ⟨f0, f1, f2⟩ := HT.out.frozA
  obtain ⟨g0, g1, g2⟩ := HT.out.frozB
  obtain ⟨y0, y1, y2⟩ := HT.out.cells
  obtain ⟨r0, r1, r2⟩ := HT.out.res
  clear hb2
  go_wp2_with fail
  all_goals first
    | (obtain ⟨z0, z1, z2⟩ := (HT.out.put 3 0 ⟨#[]⟩).res
       refine bodyPost_ret (v := .tuple #[.agg #[.int .i64 3, .int .i64 0, .string ⟨#[]⟩], .int .i64 0]) (by simp [results, Try.results35, go_sem, z0, z1, z2]) rfl ?_
       exact HY.out _ (HT.out.put 3 0 ⟨#[]⟩).bel)
    | (refine bodyPost_ret (v := .tuple #[.agg #[.int .i64 3, .int .i64 0, .string ⟨#[]⟩], .int .i64 0]) (by simp [results, Try.results35, go_sem]) rfl ?_
       exact HY.out _ (alloc2_below _ _ _))
    | fail
set_option maxRecDepth 100000 in
set_option maxHeartbeats 8000000 in
theorem tk_3y (u : Nat) (r t : List UInt8) (ad : Addr) (cap : Nat) (w : World) (x0 : w.cell? ad = some (.int .u8 (3 : UInt8).toNat)) (hab : ad.block < w.heap.size) (hcap : t.length + 1 ≤ cap) (h1 : ¬ cap = 1) (hl : t.length + 1 ≤ 100000) (hr : RdB w w.heap.size (some (ad.add 1)) t) (ht : t = vL u ++ r) (hu : u < 18446744073709551616) : Calls Try.prog 35 #[.slice (some ad) (t.length + 1) cap] w (TkT w (3 :: t)) := by
  have hti : (0 : Int) < (t.length : Int) + 1 := by omega
  have htb : ((t.length : Int) + 1 == 0) = false := beq_false_of_ne (by omega)
  have h1i : (1 : Int) ≤ (t.length : Int) + 1 := by omega
  obtain ⟨n, HN⟩ : ∃ n : Int, Hid (n = zag u) := ⟨_, Lib.hid rfl⟩
  obtain ⟨L, HLL⟩ : ∃ L : Nat, Hid (L = (vL u).length) := ⟨_, Lib.hid rfl⟩
  have hL10 : (L : Int) ≤ 10 := by have := vL_10 hu; have := HLL.out; omega
  have HRN : Hid (Val.R ⟨3, n, ⟨#[]⟩⟩ ∧ 3 :: t = rowV ⟨3, n, ⟨#[]⟩⟩ ++ r) := Lib.hid (by rw [HN.out, ht]; exact row_num (c := 3) (by decide) hu r)
  have HRL : Hid ((rowV ⟨3, n, ⟨#[]⟩⟩).length = L + 1) := Lib.hid (by
    have h2 := congrArg List.length HRN.out.2
    have h3 := congrArg List.length ht
    rw [List.length_append, List.length_cons] at h2
    rw [List.length_append] at h3
    have := HLL.out
    omega)
  have HY : Hid (∀ W, Below w.heap.size w W → ∀ s : Int, s = 1 + (L : Int) → TkT w (3 :: t) (.returned (.tuple #[.agg #[.int .i64 3, .int .i64 n, .string ⟨#[]⟩], .int .i64 s])) W) := Lib.hid fun W hW s hs => ⟨hW, ⟨3, n, ⟨#[]⟩⟩, L + 1, by rw [hs]; congr 3; simp [Val.v]; omega, HRN.out.1.2, by exact Nat.zero_le _, by have h3 := congrArg List.length ht; rw [List.length_append] at h3; have := HLL.out; rw [List.length_cons]; omega, fun y r' hy e => by
    obtain ⟨h1, _⟩ := rowV_inj HRN.out.1 hy (HRN.out.2.symm.trans e)
    subst h1
    exact ⟨rfl, HRL.out.symm⟩⟩
  have LG : Hid (∀ W, Below w.heap.size w W → Calls Try.prog 44 #[.slice (some (ad.add 1)) t.length (cap - 1)] W (Ans (.tuple #[.int .i64 n, .int .i64 (L : Int), .bool true]) W)) := Lib.hid fun W hb => by rw [HN.out, HLL.out]; exact refLong_yes u r t ht hu _ _ _ rfl (by omega) W (by omega) ((hr.below hb (Nat.le_refl _)).more hb.size)
  have HT := Lib.hid (TB.new w 0 0 ⟨#[]⟩ 3 0 ⟨#[]⟩)
  obtain ⟨f0, f1, f2⟩ := HT.out.frozA
  obtain ⟨g0, g1, g2⟩ := HT.out.frozB
  obtain ⟨y0, y1, y2⟩ := HT.out.cells
  obtain ⟨r0, r1, r2⟩ := HT.out.res
  clear hcap hl hr hu ht
  go_enter Try.func35, Try.ntmps35
  go_wp2_with fail
  refine (LG.out _ HT.out.bel).mono ?_
  rintro e w2 ⟨rfl, hb2⟩
  have HT := Lib.hid (HT.out.keep hb2)
  obtain ⟨f0, f1, f2⟩ := HT.out.frozA
  obtain ⟨g0, g1, g2⟩ := HT.out.frozB
  obtain ⟨y0, y1, y2⟩ := HT.out.cells
  obtain ⟨r0, r1, r2⟩ := HT.out.res
  clear hb2
  go_wp2_with fail
  all_goals first
    | (obtain ⟨z0, z1, z2⟩ := ((HT.out.b1 n).put 3 n ⟨#[]⟩).res
       refine bodyPost_ret (v := .tuple #[.agg #[.int .i64 3, .int .i64 n, .string ⟨#[]⟩], .int .i64 (1 + (L : Int))]) (by simp [results, Try.results35, go_sem, z0, z1, z2]) rfl ?_
       exact HY.out _ ((HT.out.b1 n).put 3 n ⟨#[]⟩).bel _ rfl)
    | (refine bodyPost_ret (v := .tuple #[.agg #[.int .i64 3, .int .i64 n, .string ⟨#[]⟩], .int .i64 (1 + (L : Int))]) (by simp [results, Try.results35, go_sem]) rfl ?_
       exact HY.out _ (alloc2_below _ _ _) _ rfl)
    | fail
set_option maxRecDepth 100000 in
set_option maxHeartbeats 8000000 in
theorem tk_4o (ad : Addr) (w : World) (x0 : w.cell? ad = some (.int .u8 (4 : UInt8).toNat)) (hab : ad.block < w.heap.size) : Calls Try.prog 35 #[.slice (some ad) 1 1] w (TkT w ([4])) := by
  have HY : Hid (∀ W, Below w.heap.size w W → TkT w ([4]) (.returned (.tuple #[.agg #[.int .i64 4, .int .i64 0, .string ⟨#[]⟩], .int .i64 0])) W) := Lib.hid fun W hW => ⟨hW, ⟨4, 0, ⟨#[]⟩⟩, 0, rfl, ⟨by unfold i64ok; decide, by unfold i64ok; decide⟩, by exact Nat.zero_le _, Nat.zero_le _, fun y r hy e => absurd e (row_textn (c := 4) (t := []) (by decide) (fun s r _ => vL_none Mor.nil) y r hy)⟩
  have LG : Hid (∀ W, Below w.heap.size w W → Calls Try.prog 44 #[.slice (some ad) 0 0] W (Ans (.tuple #[.int .i64 0, .int .i64 0, .bool false]) W)) := Lib.hid fun W hb => refLong_no [] (fun u r _ => vL_none Mor.nil) _ 0 _ rfl (by decide) W (Nat.zero_le _) (RdB.nil _ _ _)
  have HT := Lib.hid (TB.new w 0 0 ⟨#[]⟩ 4 0 ⟨#[]⟩)
  obtain ⟨f0, f1, f2⟩ := HT.out.frozA
  obtain ⟨g0, g1, g2⟩ := HT.out.frozB
  obtain ⟨y0, y1, y2⟩ := HT.out.cells
  obtain ⟨r0, r1, r2⟩ := HT.out.res
  go_enter Try.func35, Try.ntmps35
  go_wp2_with fail
  refine (LG.out _ HT.out.bel).mono ?_
  rintro e w2 ⟨rfl, hb2⟩
  have HT := Lib.hid (HT.out.keep hb2)
  obtain ⟨f0, f1, f2⟩ := HT.out.frozA
  obtain ⟨g0, g1, g2⟩ := HT.out.frozB
  obtain ⟨y0, y1, y2⟩ := HT.out.cells
  obtain ⟨r0, r1, r2⟩ := HT.out.res
  clear hb2
  go_wp2_with fail
  all_goals first
    | (obtain ⟨z0, z1, z2⟩ := (HT.out.put 4 0 ⟨#[]⟩).res
       refine bodyPost_ret (v := .tuple #[.agg #[.int .i64 4, .int .i64 0, .string ⟨#[]⟩], .int .i64 0]) (by simp [results, Try.results35, go_sem, z0, z1, z2]) rfl ?_
       exact HY.out _ (HT.out.put 4 0 ⟨#[]⟩).bel)
    | (refine bodyPost_ret (v := .tuple #[.agg #[.int .i64 4, .int .i64 0, .string ⟨#[]⟩], .int .i64 0]) (by simp [results, Try.results35, go_sem]) rfl ?_
       exact HY.out _ (alloc2_below _ _ _))
    | fail
set_option maxRecDepth 100000 in
set_option maxHeartbeats 8000000 in
theorem tk_4n (t : List UInt8) (ad : Addr) (cap : Nat) (w : World) (x0 : w.cell? ad = some (.int .u8 (4 : UInt8).toNat)) (hab : ad.block < w.heap.size) (hcap : t.length + 1 ≤ cap) (h1 : ¬ cap = 1) (hl : t.length + 1 ≤ 100000) (hr : RdB w w.heap.size (some (ad.add 1)) t) (hno : ∀ u r, u < 18446744073709551616 → t ≠ vL u ++ r) : Calls Try.prog 35 #[.slice (some ad) (t.length + 1) cap] w (TkT w (4 :: t)) := by
  have hti : (0 : Int) < (t.length : Int) + 1 := by omega
  have htb : ((t.length : Int) + 1 == 0) = false := beq_false_of_ne (by omega)
  have h1i : (1 : Int) ≤ (t.length : Int) + 1 := by omega
  have HY : Hid (∀ W, Below w.heap.size w W → TkT w (4 :: t) (.returned (.tuple #[.agg #[.int .i64 4, .int .i64 0, .string ⟨#[]⟩], .int .i64 0])) W) := Lib.hid fun W hW => ⟨hW, ⟨4, 0, ⟨#[]⟩⟩, 0, rfl, ⟨by unfold i64ok; decide, by unfold i64ok; decide⟩, by exact Nat.zero_le _, Nat.zero_le _, fun y r hy e => absurd e (row_textn (c := 4) (by decide) (fun s r hs => hno _ _ (zig_lt (n := (s.length : Int)) (by omega) (by omega))) y r hy)⟩
  have LG : Hid (∀ W, Below w.heap.size w W → Calls Try.prog 44 #[.slice (some (ad.add 1)) t.length (cap - 1)] W (Ans (.tuple #[.int .i64 0, .int .i64 0, .bool false]) W)) := Lib.hid fun W hb => refLong_no t hno _ _ _ rfl (by omega) W (by omega) ((hr.below hb (Nat.le_refl _)).more hb.size)
  have HT := Lib.hid (TB.new w 0 0 ⟨#[]⟩ 4 0 ⟨#[]⟩)
  obtain ⟨f0, f1, f2⟩ := HT.out.frozA
  obtain ⟨g0, g1, g2⟩ := HT.out.frozB
  obtain ⟨y0, y1, y2⟩ := HT.out.cells
  obtain ⟨r0, r1, r2⟩ := HT.out.res
  clear hcap hl hr hno
  go_enter Try.func35, Try.ntmps35
  go_wp2_with fail
  refine (LG.out _ HT.out.bel).mono ?_
  rintro e w2 ⟨rfl, hb2⟩
  have HT := Lib.hid (HT.out.keep hb2)
  obtain ⟨f0, f1, f2⟩ := HT.out.frozA
  obtain ⟨g0, g1, g2⟩ := HT.out.frozB
  obtain ⟨y0, y1, y2⟩ := HT.out.cells
  obtain ⟨r0, r1, r2⟩ := HT.out.res
  clear hb2
  go_wp2_with fail
  all_goals first
    | (obtain ⟨z0, z1, z2⟩ := (HT.out.put 4 0 ⟨#[]⟩).res
       refine bodyPost_ret (v := .tuple #[.agg #[.int .i64 4, .int .i64 0, .string ⟨#[]⟩], .int .i64 0]) (by simp [results, Try.results35, go_sem, z0, z1, z2]) rfl ?_
       exact HY.out _ (HT.out.put 4 0 ⟨#[]⟩).bel)
    | (refine bodyPost_ret (v := .tuple #[.agg #[.int .i64 4, .int .i64 0, .string ⟨#[]⟩], .int .i64 0]) (by simp [results, Try.results35, go_sem]) rfl ?_
       exact HY.out _ (alloc2_below _ _ _))
    | fail
set_option maxRecDepth 100000 in
set_option maxHeartbeats 8000000 in
theorem tk_5o (ad : Addr) (w : World) (x0 : w.cell? ad = some (.int .u8 (5 : UInt8).toNat)) (hab : ad.block < w.heap.size) : Calls Try.prog 35 #[.slice (some ad) 1 1] w (TkT w ([5])) := by
  have HY : Hid (∀ W, Below w.heap.size w W → TkT w ([5]) (.returned (.tuple #[.agg #[.int .i64 5, .int .i64 0, .string ⟨#[]⟩], .int .i64 0])) W) := Lib.hid fun W hW => ⟨hW, ⟨5, 0, ⟨#[]⟩⟩, 0, rfl, ⟨by unfold i64ok; decide, by unfold i64ok; decide⟩, by exact Nat.zero_le _, Nat.zero_le _, fun y r hy e => absurd e (row_textn (c := 5) (t := []) (by decide) (fun s r _ => vL_none Mor.nil) y r hy)⟩
  have LG : Hid (∀ W, Below w.heap.size w W → Calls Try.prog 44 #[.slice (some ad) 0 0] W (Ans (.tuple #[.int .i64 0, .int .i64 0, .bool false]) W)) := Lib.hid fun W hb => refLong_no [] (fun u r _ => vL_none Mor.nil) _ 0 _ rfl (by decide) W (Nat.zero_le _) (RdB.nil _ _ _)
  have HT := Lib.hid (TB.new w 0 0 ⟨#[]⟩ 5 0 ⟨#[]⟩)
  obtain ⟨f0, f1, f2⟩ := HT.out.frozA
  obtain ⟨g0, g1, g2⟩ := HT.out.frozB
  obtain ⟨y0, y1, y2⟩ := HT.out.cells
  obtain ⟨r0, r1, r2⟩ := HT.out.res
  go_enter Try.func35, Try.ntmps35
  go_wp2_with fail
  refine (LG.out _ HT.out.bel).mono ?_
  rintro e w2 ⟨rfl, hb2⟩
  have HT := Lib.hid (HT.out.keep hb2)
  obtain ⟨f0, f1, f2⟩ := HT.out.frozA
  obtain ⟨g0, g1, g2⟩ := HT.out.frozB
  obtain ⟨y0, y1, y2⟩ := HT.out.cells
  obtain ⟨r0, r1, r2⟩ := HT.out.res
  clear hb2
  go_wp2_with fail
  all_goals first
    | (obtain ⟨z0, z1, z2⟩ := (HT.out.put 5 0 ⟨#[]⟩).res
       refine bodyPost_ret (v := .tuple #[.agg #[.int .i64 5, .int .i64 0, .string ⟨#[]⟩], .int .i64 0]) (by simp [results, Try.results35, go_sem, z0, z1, z2]) rfl ?_
       exact HY.out _ (HT.out.put 5 0 ⟨#[]⟩).bel)
    | (refine bodyPost_ret (v := .tuple #[.agg #[.int .i64 5, .int .i64 0, .string ⟨#[]⟩], .int .i64 0]) (by simp [results, Try.results35, go_sem]) rfl ?_
       exact HY.out _ (alloc2_below _ _ _))
    | fail
set_option maxRecDepth 100000 in
set_option maxHeartbeats 8000000 in
theorem tk_5n (t : List UInt8) (ad : Addr) (cap : Nat) (w : World) (x0 : w.cell? ad = some (.int .u8 (5 : UInt8).toNat)) (hab : ad.block < w.heap.size) (hcap : t.length + 1 ≤ cap) (h1 : ¬ cap = 1) (hl : t.length + 1 ≤ 100000) (hr : RdB w w.heap.size (some (ad.add 1)) t) (hno : ∀ u r, u < 18446744073709551616 → t ≠ vL u ++ r) : Calls Try.prog 35 #[.slice (some ad) (t.length + 1) cap] w (TkT w (5 :: t)) := by
  have hti : (0 : Int) < (t.length : Int) + 1 := by omega
  have htb : ((t.length : Int) + 1 == 0) = false := beq_false_of_ne (by omega)
  have h1i : (1 : Int) ≤ (t.length : Int) + 1 := by omega
  have HY : Hid (∀ W, Below w.heap.size w W → TkT w (5 :: t) (.returned (.tuple #[.agg #[.int .i64 5, .int .i64 0, .string ⟨#[]⟩], .int .i64 0])) W) := Lib.hid fun W hW => ⟨hW, ⟨5, 0, ⟨#[]⟩⟩, 0, rfl, ⟨by unfold i64ok; decide, by unfold i64ok; decide⟩, by exact Nat.zero_le _, Nat.zero_le _, fun y r hy e => absurd e (row_textn (c := 5) (by decide) (fun s r hs => hno _ _ (zig_lt (n := (s.length : Int)) (by omega) (by omega))) y r hy)⟩
  have LG : Hid (∀ W, Below w.heap.size w W → Calls Try.prog 44 #[.slice (some (ad.add 1)) t.length (cap - 1)] W (Ans (.tuple #[.int .i64 0, .int .i64 0, .bool false]) W)) := Lib.hid fun W hb => refLong_no t hno _ _ _ rfl (by omega) W (by omega) ((hr.below hb (Nat.le_refl _)).more hb.size)
  have HT := Lib.hid (TB.new w 0 0 ⟨#[]⟩ 5 0 ⟨#[]⟩)
  obtain ⟨f0, f1, f2⟩ := HT.out.frozA
  obtain ⟨g0, g1, g2⟩ := HT.out.frozB
  obtain ⟨y0, y1, y2⟩ := HT.out.cells
  obtain ⟨r0, r1, r2⟩ := HT.out.res
  clear hcap hl hr hno
  go_enter Try.func35, Try.ntmps35
  go_wp2_with fail
  refine (LG.out _ HT.out.bel).mono ?_
  rintro e w2 ⟨rfl, hb2⟩
  have HT := Lib.hid (HT.out.keep hb2)
  obtain ⟨f0, f1, f2⟩ := HT.out.frozA
  obtain ⟨g0, g1, g2⟩ := HT.out.frozB
  obtain ⟨y0, y1, y2⟩ := HT.out.cells
  obtain ⟨r0, r1, r2⟩ := HT.out.res
  clear hb2
  go_wp2_with fail
  all_goals first
    | (obtain ⟨z0, z1, z2⟩ := (HT.out.put 5 0 ⟨#[]⟩).res
       refine bodyPost_ret (v := .tuple #[.agg #[.int .i64 5, .int .i64 0, .string ⟨#[]⟩], .int .i64 0]) (by simp [results, Try.results35, go_sem, z0, z1, z2]) rfl ?_
       exact HY.out _ (HT.out.put 5 0 ⟨#[]⟩).bel)
    | (refine bodyPost_ret (v := .tuple #[.agg #[.int .i64 5, .int .i64 0, .string ⟨#[]⟩], .int .i64 0]) (by simp [results, Try.results35, go_sem]) rfl ?_
       exact HY.out _ (alloc2_below _ _ _))
    | fail
end Go.Proofs.Ytbbhddpfclgohaa
