/- The document's take, by kind. -/
import Derived.Test.YtbbhddpfclgohaaWVA
namespace Go.Proofs.Ytbbhddpfclgohaa
open Go.RowKit

set_option maxRecDepth 100000 in
set_option maxHeartbeats 8000000 in
theorem tk_4b (u : Nat) (r t : List UInt8) (ad : Addr) (cap : Nat) (w : World) (x0 : w.cell? ad = some (.int .u8 (4 : UInt8).toNat)) (hab : ad.block < w.heap.size) (hcap : t.length + 1 ≤ cap) (h1 : ¬ cap = 1) (hl : t.length + 1 ≤ 100000) (hr : RdB w w.heap.size (some (ad.add 1)) t) (ht : t = vL u ++ r) (hu : u < 18446744073709551616) (n0 : zag u < 0) : Calls Try.prog 35 #[.slice (some ad) (t.length + 1) cap] w (TkT w (4 :: t)) := by
  have hti : (0 : Int) < (t.length : Int) + 1 := by omega
  have htb : ((t.length : Int) + 1 == 0) = false := beq_false_of_ne (by omega)
  have h1i : (1 : Int) ≤ (t.length : Int) + 1 := by omega
  obtain ⟨n, HN⟩ : ∃ n : Int, Hid (n = zag u) := ⟨_, Lib.hid rfl⟩
  obtain ⟨L, HLL⟩ : ∃ L : Nat, Hid (L = (vL u).length) := ⟨_, Lib.hid rfl⟩
  have hL10 : (L : Int) ≤ 10 := by have := vL_10 hu; have := HLL.out; omega
  have hLR : (t.length : Int) = (L : Int) + (r.length : Int) := by have h3 := congrArg List.length ht; rw [List.length_append] at h3; have := HLL.out; omega
  have HLR := Lib.hid hLR
  have hli : (t.length : Int) ≤ 99999 := by omega
  have hn0 : n < 0 := by rw [HN.out]; exact n0
  have HY : Hid (∀ W, Below w.heap.size w W → TkT w (4 :: t) (.returned (.tuple #[.agg #[.int .i64 4, .int .i64 0, .string ⟨#[]⟩], .int .i64 0])) W) := Lib.hid fun W hW => ⟨hW, ⟨4, 0, ⟨#[]⟩⟩, 0, rfl, ⟨by unfold i64ok; decide, by unfold i64ok; decide⟩, by exact Nat.zero_le _, Nat.zero_le _, fun y r' hy e => absurd e (row_textn (c := 4) (by decide) (fun s q hs e2 => by
    obtain ⟨h3, h4⟩ := vL_inj (ht.symm.trans e2)
    have h5 := congrArg zag h3
    rw [zag_zig] at h5
    have h6 := congrArg List.length h4
    rw [List.length_append] at h6
    omega) y r' hy)⟩
  have LG : Hid (∀ W, Below w.heap.size w W → Calls Try.prog 44 #[.slice (some (ad.add 1)) t.length (cap - 1)] W (Ans (.tuple #[.int .i64 n, .int .i64 (L : Int), .bool true]) W)) := Lib.hid fun W hb => by rw [HN.out, HLL.out]; exact refLong_yes u r t ht hu _ _ _ rfl (by omega) W (by omega) ((hr.below hb (Nat.le_refl _)).more hb.size)
  have HT := Lib.hid (TB.new w 0 0 ⟨#[]⟩ 4 0 ⟨#[]⟩)
  obtain ⟨f0, f1, f2⟩ := HT.out.frozA
  obtain ⟨g0, g1, g2⟩ := HT.out.frozB
  obtain ⟨y0, y1, y2⟩ := HT.out.cells
  obtain ⟨r0, r1, r2⟩ := HT.out.res
  clear hcap hl hr hu ht n0 hLR
  go_enter Try.func35, Try.ntmps35
  go_wp2_with fail
  refine (LG.out _ HT.out.bel).mono ?_
  rintro e w2 ⟨rfl, hb2⟩
  have HT := Lib.hid (HT.out.keep hb2)
  obtain ⟨f0, f1, f2⟩ := HT.out.frozA
  obtain ⟨g0, g1, g2⟩ := HT.out.frozB
  obtain ⟨y0, y1, y2⟩ := HT.out.cells
  obtain ⟨r0, r1, r2⟩ := HT.out.res
  clear hb2
  go_wp2_with fail
  all_goals first
    | (obtain ⟨z0, z1, z2⟩ := (HT.out.put 4 0 ⟨#[]⟩).res
       refine bodyPost_ret (v := .tuple #[.agg #[.int .i64 4, .int .i64 0, .string ⟨#[]⟩], .int .i64 0]) (by simp [results, Try.results35, go_sem, z0, z1, z2]) rfl ?_
       exact HY.out _ (HT.out.put 4 0 ⟨#[]⟩).bel)
    | (refine bodyPost_ret (v := .tuple #[.agg #[.int .i64 4, .int .i64 0, .string ⟨#[]⟩], .int .i64 0]) (by simp [results, Try.results35, go_sem]) rfl ?_
       exact HY.out _ (alloc2_below _ _ _))
    | fail
set_option maxRecDepth 100000 in
set_option maxHeartbeats 8000000 in
theorem tk_4c (u : Nat) (r t : List UInt8) (ad : Addr) (cap : Nat) (w : World) (x0 : w.cell? ad = some (.int .u8 (4 : UInt8).toNat)) (hab : ad.block < w.heap.size) (hcap : t.length + 1 ≤ cap) (h1 : ¬ cap = 1) (hl : t.length + 1 ≤ 100000) (hr : RdB w w.heap.size (some (ad.add 1)) t) (ht : t = vL u ++ r) (hu : u < 18446744073709551616) (n0 : (r.length : Int) < zag u) : Calls Try.prog 35 #[.slice (some ad) (t.length + 1) cap] w (TkT w (4 :: t)) := by
  have hti : (0 : Int) < (t.length : Int) + 1 := by omega
  have htb : ((t.length : Int) + 1 == 0) = false := beq_false_of_ne (by omega)
  have h1i : (1 : Int) ≤ (t.length : Int) + 1 := by omega
  obtain ⟨n, HN⟩ : ∃ n : Int, Hid (n = zag u) := ⟨_, Lib.hid rfl⟩
  obtain ⟨L, HLL⟩ : ∃ L : Nat, Hid (L = (vL u).length) := ⟨_, Lib.hid rfl⟩
  have hL10 : (L : Int) ≤ 10 := by have := vL_10 hu; have := HLL.out; omega
  have hLR : (t.length : Int) = (L : Int) + (r.length : Int) := by have h3 := congrArg List.length ht; rw [List.length_append] at h3; have := HLL.out; omega
  have HLR := Lib.hid hLR
  have hli : (t.length : Int) ≤ 99999 := by omega
  have hn0 : (r.length : Int) < n := by rw [HN.out]; exact n0
  have hn1 : (0 : Int) ≤ n := by omega
  have hn2 : (t.length : Int) - (L : Int) < n := by omega
  have HY : Hid (∀ W, Below w.heap.size w W → TkT w (4 :: t) (.returned (.tuple #[.agg #[.int .i64 4, .int .i64 0, .string ⟨#[]⟩], .int .i64 0])) W) := Lib.hid fun W hW => ⟨hW, ⟨4, 0, ⟨#[]⟩⟩, 0, rfl, ⟨by unfold i64ok; decide, by unfold i64ok; decide⟩, by exact Nat.zero_le _, Nat.zero_le _, fun y r' hy e => absurd e (row_textn (c := 4) (by decide) (fun s q hs e2 => by
    obtain ⟨h3, h4⟩ := vL_inj (ht.symm.trans e2)
    have h5 := congrArg zag h3
    rw [zag_zig] at h5
    have h6 := congrArg List.length h4
    rw [List.length_append] at h6
    omega) y r' hy)⟩
  have LG : Hid (∀ W, Below w.heap.size w W → Calls Try.prog 44 #[.slice (some (ad.add 1)) t.length (cap - 1)] W (Ans (.tuple #[.int .i64 n, .int .i64 (L : Int), .bool true]) W)) := Lib.hid fun W hb => by rw [HN.out, HLL.out]; exact refLong_yes u r t ht hu _ _ _ rfl (by omega) W (by omega) ((hr.below hb (Nat.le_refl _)).more hb.size)
  have HT := Lib.hid (TB.new w 0 0 ⟨#[]⟩ 4 0 ⟨#[]⟩)
  obtain ⟨f0, f1, f2⟩ := HT.out.frozA
  obtain ⟨g0, g1, g2⟩ := HT.out.frozB
  obtain ⟨y0, y1, y2⟩ := HT.out.cells
  obtain ⟨r0, r1, r2⟩ := HT.out.res
  clear hcap hl hr hu ht n0 hLR
  go_enter Try.func35, Try.ntmps35
  go_wp2_with fail
  refine (LG.out _ HT.out.bel).mono ?_
  rintro e w2 ⟨rfl, hb2⟩
  have HT := Lib.hid (HT.out.keep hb2)
  obtain ⟨f0, f1, f2⟩ := HT.out.frozA
  obtain ⟨g0, g1, g2⟩ := HT.out.frozB
  obtain ⟨y0, y1, y2⟩ := HT.out.cells
  obtain ⟨r0, r1, r2⟩ := HT.out.res
  clear hb2
  go_wp2_with fail
  all_goals first
    | (obtain ⟨z0, z1, z2⟩ := (HT.out.put 4 0 ⟨#[]⟩).res
       refine bodyPost_ret (v := .tuple #[.agg #[.int .i64 4, .int .i64 0, .string ⟨#[]⟩], .int .i64 0]) (by simp [results, Try.results35, go_sem, z0, z1, z2]) rfl ?_
       exact HY.out _ (HT.out.put 4 0 ⟨#[]⟩).bel)
    | (refine bodyPost_ret (v := .tuple #[.agg #[.int .i64 4, .int .i64 0, .string ⟨#[]⟩], .int .i64 0]) (by simp [results, Try.results35, go_sem]) rfl ?_
       exact HY.out _ (alloc2_below _ _ _))
    | fail
set_option maxRecDepth 100000 in
set_option maxHeartbeats 8000000 in
theorem tk_5b (u : Nat) (r t : List UInt8) (ad : Addr) (cap : Nat) (w : World) (x0 : w.cell? ad = some (.int .u8 (5 : UInt8).toNat)) (hab : ad.block < w.heap.size) (hcap : t.length + 1 ≤ cap) (h1 : ¬ cap = 1) (hl : t.length + 1 ≤ 100000) (hr : RdB w w.heap.size (some (ad.add 1)) t) (ht : t = vL u ++ r) (hu : u < 18446744073709551616) (n0 : zag u < 0) : Calls Try.prog 35 #[.slice (some ad) (t.length + 1) cap] w (TkT w (5 :: t)) := by
  have hti : (0 : Int) < (t.length : Int) + 1 := by omega
  have htb : ((t.length : Int) + 1 == 0) = false := beq_false_of_ne (by omega)
  have h1i : (1 : Int) ≤ (t.length : Int) + 1 := by omega
  obtain ⟨n, HN⟩ : ∃ n : Int, Hid (n = zag u) := ⟨_, Lib.hid rfl⟩
  obtain ⟨L, HLL⟩ : ∃ L : Nat, Hid (L = (vL u).length) := ⟨_, Lib.hid rfl⟩
  have hL10 : (L : Int) ≤ 10 := by have := vL_10 hu; have := HLL.out; omega
  have hLR : (t.length : Int) = (L : Int) + (r.length : Int) := by have h3 := congrArg List.length ht; rw [List.length_append] at h3; have := HLL.out; omega
  have HLR := Lib.hid hLR
  have hli : (t.length : Int) ≤ 99999 := by omega
  have hn0 : n < 0 := by rw [HN.out]; exact n0
  have HY : Hid (∀ W, Below w.heap.size w W → TkT w (5 :: t) (.returned (.tuple #[.agg #[.int .i64 5, .int .i64 0, .string ⟨#[]⟩], .int .i64 0])) W) := Lib.hid fun W hW => ⟨hW, ⟨5, 0, ⟨#[]⟩⟩, 0, rfl, ⟨by unfold i64ok; decide, by unfold i64ok; decide⟩, by exact Nat.zero_le _, Nat.zero_le _, fun y r' hy e => absurd e (row_textn (c := 5) (by decide) (fun s q hs e2 => by
    obtain ⟨h3, h4⟩ := vL_inj (ht.symm.trans e2)
    have h5 := congrArg zag h3
    rw [zag_zig] at h5
    have h6 := congrArg List.length h4
    rw [List.length_append] at h6
    omega) y r' hy)⟩
  have LG : Hid (∀ W, Below w.heap.size w W → Calls Try.prog 44 #[.slice (some (ad.add 1)) t.length (cap - 1)] W (Ans (.tuple #[.int .i64 n, .int .i64 (L : Int), .bool true]) W)) := Lib.hid fun W hb => by rw [HN.out, HLL.out]; exact refLong_yes u r t ht hu _ _ _ rfl (by omega) W (by omega) ((hr.below hb (Nat.le_refl _)).more hb.size)
  have HT := Lib.hid (TB.new w 0 0 ⟨#[]⟩ 5 0 ⟨#[]⟩)
  obtain ⟨f0, f1, f2⟩ := HT.out.frozA
  obtain ⟨g0, g1, g2⟩ := HT.out.frozB
  obtain ⟨y0, y1, y2⟩ := HT.out.cells
  obtain ⟨r0, r1, r2⟩ := HT.out.res
  clear hcap hl hr hu ht n0 hLR
  go_enter Try.func35, Try.ntmps35
  go_wp2_with fail
  refine (LG.out _ HT.out.bel).mono ?_
  rintro e w2 ⟨rfl, hb2⟩
  have HT := Lib.hid (HT.out.keep hb2)
  obtain ⟨f0, f1, f2⟩ := HT.out.frozA
  obtain ⟨g0, g1, g2⟩ := HT.out.frozB
  obtain ⟨y0, y1, y2⟩ := HT.out.cells
  obtain ⟨r0, r1, r2⟩ := HT.out.res
  clear hb2
  go_wp2_with fail
  all_goals first
    | (obtain ⟨z0, z1, z2⟩ := (HT.out.put 5 0 ⟨#[]⟩).res
       refine bodyPost_ret (v := .tuple #[.agg #[.int .i64 5, .int .i64 0, .string ⟨#[]⟩], .int .i64 0]) (by simp [results, Try.results35, go_sem, z0, z1, z2]) rfl ?_
       exact HY.out _ (HT.out.put 5 0 ⟨#[]⟩).bel)
    | (refine bodyPost_ret (v := .tuple #[.agg #[.int .i64 5, .int .i64 0, .string ⟨#[]⟩], .int .i64 0]) (by simp [results, Try.results35, go_sem]) rfl ?_
       exact HY.out _ (alloc2_below _ _ _))
    | fail
set_option maxRecDepth 100000 in
set_option maxHeartbeats 8000000 in
theorem tk_5c (u : Nat) (r t : List UInt8) (ad : Addr) (cap : Nat) (w : World) (x0 : w.cell? ad = some (.int .u8 (5 : UInt8).toNat)) (hab : ad.block < w.heap.size) (hcap : t.length + 1 ≤ cap) (h1 : ¬ cap = 1) (hl : t.length + 1 ≤ 100000) (hr : RdB w w.heap.size (some (ad.add 1)) t) (ht : t = vL u ++ r) (hu : u < 18446744073709551616) (n0 : (r.length : Int) < zag u) : Calls Try.prog 35 #[.slice (some ad) (t.length + 1) cap] w (TkT w (5 :: t)) := by
  have hti : (0 : Int) < (t.length : Int) + 1 := by omega
  have htb : ((t.length : Int) + 1 == 0) = false := beq_false_of_ne (by omega)
  have h1i : (1 : Int) ≤ (t.length : Int) + 1 := by omega
  obtain ⟨n, HN⟩ : ∃ n : Int, Hid (n = zag u) := ⟨_, Lib.hid rfl⟩
  obtain ⟨L, HLL⟩ : ∃ L : Nat, Hid (L = (vL u).length) := ⟨_, Lib.hid rfl⟩
  have hL10 : (L : Int) ≤ 10 := by have := vL_10 hu; have := HLL.out; omega
  have hLR : (t.length : Int) = (L : Int) + (r.length : Int) := by have h3 := congrArg List.length ht; rw [List.length_append] at h3; have := HLL.out; omega
  have HLR := Lib.hid hLR
  have hli : (t.length : Int) ≤ 99999 := by omega
  have hn0 : (r.length : Int) < n := by rw [HN.out]; exact n0
  have hn1 : (0 : Int) ≤ n := by omega
  have hn2 : (t.length : Int) - (L : Int) < n := by omega
  have HY : Hid (∀ W, Below w.heap.size w W → TkT w (5 :: t) (.returned (.tuple #[.agg #[.int .i64 5, .int .i64 0, .string ⟨#[]⟩], .int .i64 0])) W) := Lib.hid fun W hW => ⟨hW, ⟨5, 0, ⟨#[]⟩⟩, 0, rfl, ⟨by unfold i64ok; decide, by unfold i64ok; decide⟩, by exact Nat.zero_le _, Nat.zero_le _, fun y r' hy e => absurd e (row_textn (c := 5) (by decide) (fun s q hs e2 => by
    obtain ⟨h3, h4⟩ := vL_inj (ht.symm.trans e2)
    have h5 := congrArg zag h3
    rw [zag_zig] at h5
    have h6 := congrArg List.length h4
    rw [List.length_append] at h6
    omega) y r' hy)⟩
  have LG : Hid (∀ W, Below w.heap.size w W → Calls Try.prog 44 #[.slice (some (ad.add 1)) t.length (cap - 1)] W (Ans (.tuple #[.int .i64 n, .int .i64 (L : Int), .bool true]) W)) := Lib.hid fun W hb => by rw [HN.out, HLL.out]; exact refLong_yes u r t ht hu _ _ _ rfl (by omega) W (by omega) ((hr.below hb (Nat.le_refl _)).more hb.size)
  have HT := Lib.hid (TB.new w 0 0 ⟨#[]⟩ 5 0 ⟨#[]⟩)
  obtain ⟨f0, f1, f2⟩ := HT.out.frozA
  obtain ⟨g0, g1, g2⟩ := HT.out.frozB
  obtain ⟨y0, y1, y2⟩ := HT.out.cells
  obtain ⟨r0, r1, r2⟩ := HT.out.res
  clear hcap hl hr hu ht n0 hLR
  go_enter Try.func35, Try.ntmps35
  go_wp2_with fail
  refine (LG.out _ HT.out.bel).mono ?_
  rintro e w2 ⟨rfl, hb2⟩
  have HT := Lib.hid (HT.out.keep hb2)
  obtain ⟨f0, f1, f2⟩ := HT.out.frozA
  obtain ⟨g0, g1, g2⟩ := HT.out.frozB
  obtain ⟨y0, y1, y2⟩ := HT.out.cells
  obtain ⟨r0, r1, r2⟩ := HT.out.res
  clear hb2
  go_wp2_with fail
  all_goals first
    | (obtain ⟨z0, z1, z2⟩ := (HT.out.put 5 0 ⟨#[]⟩).res
       refine bodyPost_ret (v := .tuple #[.agg #[.int .i64 5, .int .i64 0, .string ⟨#[]⟩], .int .i64 0]) (by simp [results, Try.results35, go_sem, z0, z1, z2]) rfl ?_
       exact HY.out _ (HT.out.put 5 0 ⟨#[]⟩).bel)
    | (refine bodyPost_ret (v := .tuple #[.agg #[.int .i64 5, .int .i64 0, .string ⟨#[]⟩], .int .i64 0]) (by simp [results, Try.results35, go_sem]) rfl ?_
       exact HY.out _ (alloc2_below _ _ _))
    | fail
end Go.Proofs.Ytbbhddpfclgohaa
