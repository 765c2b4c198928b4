/- The document's take, by kind. -/
import Derived.Test.YtbbhddpfclgohaaWVA
import Derived.Test.YtbbhddpfclgohaaKY
namespace Go.Proofs.Ytbbhddpfclgohaa
open Go.RowKit

theorem tk_math {c : UInt8} (hc : c.toNat = 4 ∨ c.toNat = 5) {u kk : Nat} {r t : List UInt8} (ht : t = vL u ++ r) (hn : zag u = (kk : Int)) (hk : kk ≤ r.length) {sx : ByteArray} (hs : sx.data.toList = r.take kk) : ∀ y r', Val.R y → c :: t = rowV y ++ r' → (⟨c.toNat, 0, sx⟩ : Val) = y ∧ 1 + (vL u).length + kk = (rowV y).length := fun y r' hy e => by
  have hsl : (r.take kk).length = kk := by rw [List.length_take]; omega
  by_cases h200 : kk ≤ 200
  · have hz : u = zig (((r.take kk).length : Nat) : Int) := by
      rw [hsl, ← hn, zig_zag]
    obtain ⟨h1, h2⟩ := row_text (c := c) (s := r.take kk) hc (by omega) (r.drop kk)
    rw [← hz, List.take_append_drop, ← ht] at h2
    obtain ⟨h3, h4⟩ := rowV_inj h1 hy (h2.symm.trans e)
    have hx : sx = ⟨(r.take kk).toArray⟩ := bytes_ext (by rw [hs])
    rw [hx]
    refine ⟨h3, ?_⟩
    rw [← h3]
    have h5 := congrArg List.length h2
    rw [List.length_append, List.length_cons, List.length_drop, ht, List.length_append] at h5
    omega
  · refine absurd e (row_textn hc (fun s q hs2 e2 => ?_) y r' hy)
    obtain ⟨h3, _⟩ := vL_inj (ht.symm.trans e2)
    rw [h3, zag_zig] at hn
    omega
set_option maxRecDepth 100000 in
set_option maxHeartbeats 8000000 in
theorem tk_4ya (u kk : Nat) (r t : List UInt8) (ad : Addr) (cap : Nat) (w : World) (x0 : w.cell? ad = some (.int .u8 (4 : UInt8).toNat)) (hab : ad.block < w.heap.size) (hcap : t.length + 1 ≤ cap) (h1 : ¬ cap = 1) (hl : t.length + 1 ≤ 100000) (hr : RdB w w.heap.size (some (ad.add 1)) t) (ht : t = vL u ++ r) (hu : u < 18446744073709551616) (hn : zag u = (kk : Int)) (hk : kk ≤ r.length) (hc : cap = 1 + (vL u).length) : Calls Try.prog 35 #[.slice (some ad) (t.length + 1) cap] w (TkT w (4 :: t)) := by
  have hti : (0 : Int) < (t.length : Int) + 1 := by omega
  have htb : ((t.length : Int) + 1 == 0) = false := beq_false_of_ne (by omega)
  have h1i : (1 : Int) ≤ (t.length : Int) + 1 := by omega
  have hsl : (r.take kk).length = kk := by rw [List.length_take]; omega
  obtain ⟨sx, hsx⟩ := ba_of (r.take kk)
  have HMA := Lib.hid (tk_math (c := 4) (by decide) ht hn hk hsx)
  obtain ⟨L, HLL⟩ : ∃ L : Nat, Hid (L = (vL u).length) := ⟨_, Lib.hid rfl⟩
  have hL10 : (L : Int) ≤ 10 := by have := vL_10 hu; have := HLL.out; omega
  have hLR : (t.length : Int) = (L : Int) + (r.length : Int) := by have h3 := congrArg List.length ht; rw [List.length_append] at h3; have := HLL.out; omega
  have hli : (t.length : Int) ≤ 99999 := by omega
  have hk0 : (0 : Int) ≤ (kk : Int) := by omega
  have hk2 : (kk : Int) ≤ (t.length : Int) - (L : Int) := by omega
  have hk3 : (1 : Int) + (L : Int) + (kk : Int) ≤ (cap : Int) := by omega
  have hk4 : 1 + L + kk ≤ cap := by omega
  have hk5 : (0 : Int) ≤ 1 + (L : Int) := by omega
  have hk6 : (1 : Int) + (L : Int) ≤ 1 + (L : Int) + (kk : Int) := by omega
  have hk7 : (kk : Int) ≤ 99999 := by omega
  have HBL : Hid (1 + L + kk ≤ t.length + 1 ∧ sx.size ≤ t.length + 1) := Lib.hid (by
    have e1 : sx.size = kk := by have h := congrArg List.length hsx; rw [hsl] at h; rw [← h]; simp
    omega)
  have hrd : RdB w w.heap.size (if cap - 1 = L then some (ad.add 1) else (some (ad.add 1)).map (·.add L)) r := by
    have h := hr.drop (k := L) (cap := cap - 1) (by omega)
    rw [ht, HLL.out, List.drop_left] at h
    rw [HLL.out]
    exact h
  have HY : Hid (∀ W, Below w.heap.size w W → ∀ x : Int, x = 1 + (L : Int) + (kk : Int) → TkT w (4 :: t) (.returned (.tuple #[.agg #[.int .i64 4, .int .i64 0, .string sx], .int .i64 x])) W) := Lib.hid fun W hW x hx => ⟨hW, ⟨4, 0, sx⟩, 1 + L + kk, by rw [hx]; congr 3 <;> simp [Val.v], ⟨by show i64ok 4; unfold i64ok; omega, i64_0⟩, HBL.out.2, HBL.out.1, fun y r' hy e => by have h := HMA.out y r' hy e; rw [← HLL.out] at h; exact h⟩
  have hcL : cap = 1 + L := by rw [HLL.out]; exact hc
  subst hcL
  have hkz : kk = 0 := by omega
  have KC : Hid (∀ W, Below w.heap.size w W → (convert 26 9 (.slice (some ad) 0 0)).run Try.prog W = .ok (.string sx) W) := Lib.hid fun W hb => conv_rd (B := w.heap.size) (l := []) (RdB.nil _ _ _) rfl sx (by rw [hsx, hkz, List.take_zero])
  subst hkz
  have LG : Hid (∀ W, Below w.heap.size w W → Calls Try.prog 44 #[.slice (some (ad.add 1)) t.length L] W (Ans (.tuple #[.int .i64 0, .int .i64 (L : Int), .bool true]) W)) := Lib.hid fun W hb => by have h := refLong_yes u r t ht hu (some (ad.add 1)) t.length L rfl (by omega) W (by omega) ((hr.below hb (Nat.le_refl _)).more hb.size); rw [hn, ← HLL.out] at h; exact h
  have HT := Lib.hid (TB.new w 0 0 ⟨#[]⟩ 4 0 ⟨#[]⟩)
  obtain ⟨f0, f1, f2⟩ := HT.out.frozA
  obtain ⟨g0, g1, g2⟩ := HT.out.frozB
  obtain ⟨y0, y1, y2⟩ := HT.out.cells
  obtain ⟨r0, r1, r2⟩ := HT.out.res
  clear hcap hl hr hu ht hn hk hLR hrd hsl hsx hc 
  go_enter Try.func35, Try.ntmps35
  go_wp2_with fail
  refine (LG.out _ HT.out.bel).mono ?_
  rintro e w2 ⟨rfl, hb2⟩
  have HT := Lib.hid (HT.out.keep hb2)
  obtain ⟨f0, f1, f2⟩ := HT.out.frozA
  obtain ⟨g0, g1, g2⟩ := HT.out.frozB
  obtain ⟨y0, y1, y2⟩ := HT.out.cells
  obtain ⟨r0, r1, r2⟩ := HT.out.res
  have kcv := KC.out _ HT.out.bel
  clear hb2
  go_wp2_with fail
  obtain ⟨z0, z1, z2⟩ := ((HT.out.b2 sx).put 4 0 sx).res
  refine bodyPost_ret (v := .tuple #[.agg #[.int .i64 4, .int .i64 0, .string sx], .int .i64 (1 + (L : Int))]) (by simp [results, Try.results35, go_sem, z0, z1, z2]) rfl ?_
  exact HY.out _ ((HT.out.b2 sx).put 4 0 sx).bel _ (by simp)
set_option maxRecDepth 100000 in
set_option maxHeartbeats 8000000 in
theorem tk_4yb (u kk : Nat) (r t : List UInt8) (ad : Addr) (cap : Nat) (w : World) (x0 : w.cell? ad = some (.int .u8 (4 : UInt8).toNat)) (hab : ad.block < w.heap.size) (hcap : t.length + 1 ≤ cap) (h1 : ¬ cap = 1) (hl : t.length + 1 ≤ 100000) (hr : RdB w w.heap.size (some (ad.add 1)) t) (ht : t = vL u ++ r) (hu : u < 18446744073709551616) (hn : zag u = (kk : Int)) (hk : kk ≤ r.length) (hc : ¬ cap = 1 + (vL u).length) : Calls Try.prog 35 #[.slice (some ad) (t.length + 1) cap] w (TkT w (4 :: t)) := by
  have hti : (0 : Int) < (t.length : Int) + 1 := by omega
  have htb : ((t.length : Int) + 1 == 0) = false := beq_false_of_ne (by omega)
  have h1i : (1 : Int) ≤ (t.length : Int) + 1 := by omega
  have hsl : (r.take kk).length = kk := by rw [List.length_take]; omega
  obtain ⟨sx, hsx⟩ := ba_of (r.take kk)
  have HMA := Lib.hid (tk_math (c := 4) (by decide) ht hn hk hsx)
  obtain ⟨L, HLL⟩ : ∃ L : Nat, Hid (L = (vL u).length) := ⟨_, Lib.hid rfl⟩
  have hL10 : (L : Int) ≤ 10 := by have := vL_10 hu; have := HLL.out; omega
  have hLR : (t.length : Int) = (L : Int) + (r.length : Int) := by have h3 := congrArg List.length ht; rw [List.length_append] at h3; have := HLL.out; omega
  have hli : (t.length : Int) ≤ 99999 := by omega
  have hk0 : (0 : Int) ≤ (kk : Int) := by omega
  have hk2 : (kk : Int) ≤ (t.length : Int) - (L : Int) := by omega
  have hk3 : (1 : Int) + (L : Int) + (kk : Int) ≤ (cap : Int) := by omega
  have hk4 : 1 + L + kk ≤ cap := by omega
  have hk5 : (0 : Int) ≤ 1 + (L : Int) := by omega
  have hk6 : (1 : Int) + (L : Int) ≤ 1 + (L : Int) + (kk : Int) := by omega
  have hk7 : (kk : Int) ≤ 99999 := by omega
  have HBL : Hid (1 + L + kk ≤ t.length + 1 ∧ sx.size ≤ t.length + 1) := Lib.hid (by
    have e1 : sx.size = kk := by have h := congrArg List.length hsx; rw [hsl] at h; rw [← h]; simp
    omega)
  have hrd : RdB w w.heap.size (if cap - 1 = L then some (ad.add 1) else (some (ad.add 1)).map (·.add L)) r := by
    have h := hr.drop (k := L) (cap := cap - 1) (by omega)
    rw [ht, HLL.out, List.drop_left] at h
    rw [HLL.out]
    exact h
  have HY : Hid (∀ W, Below w.heap.size w W → ∀ x : Int, x = 1 + (L : Int) + (kk : Int) → TkT w (4 :: t) (.returned (.tuple #[.agg #[.int .i64 4, .int .i64 0, .string sx], .int .i64 x])) W) := Lib.hid fun W hW x hx => ⟨hW, ⟨4, 0, sx⟩, 1 + L + kk, by rw [hx]; congr 3 <;> simp [Val.v], ⟨by show i64ok 4; unfold i64ok; omega, i64_0⟩, HBL.out.2, HBL.out.1, fun y r' hy e => by have h := HMA.out y r' hy e; rw [← HLL.out] at h; exact h⟩
  have hcL : ¬ cap = 1 + L := by rw [HLL.out]; exact hc
  have KC : Hid (∀ W, Below w.heap.size w W → (convert 26 9 (.slice (some (ad.add (1 + L))) kk (cap - (1 + L)))).run Try.prog W = .ok (.string sx) W) := Lib.hid fun W hb => by
    rw [if_neg (by omega), Option.map_some, addr_add_add] at hrd
    exact conv_rd ((hrd.take kk).below hb (Nat.le_refl _)) hsl sx hsx
  have LG : Hid (∀ W, Below w.heap.size w W → Calls Try.prog 44 #[.slice (some (ad.add 1)) t.length (cap - 1)] W (Ans (.tuple #[.int .i64 (kk : Int), .int .i64 (L : Int), .bool true]) W)) := Lib.hid fun W hb => by have h := refLong_yes u r t ht hu (some (ad.add 1)) t.length (cap - 1) rfl (by omega) W (by omega) ((hr.below hb (Nat.le_refl _)).more hb.size); rw [hn, ← HLL.out] at h; exact h
  have HT := Lib.hid (TB.new w 0 0 ⟨#[]⟩ 4 0 ⟨#[]⟩)
  obtain ⟨f0, f1, f2⟩ := HT.out.frozA
  obtain ⟨g0, g1, g2⟩ := HT.out.frozB
  obtain ⟨y0, y1, y2⟩ := HT.out.cells
  obtain ⟨r0, r1, r2⟩ := HT.out.res
  clear hcap hl hr hu ht hn hk hLR hrd hsl hsx hc 
  go_enter Try.func35, Try.ntmps35
  go_wp2_with fail
  refine (LG.out _ HT.out.bel).mono ?_
  rintro e w2 ⟨rfl, hb2⟩
  have HT := Lib.hid (HT.out.keep hb2)
  obtain ⟨f0, f1, f2⟩ := HT.out.frozA
  obtain ⟨g0, g1, g2⟩ := HT.out.frozB
  obtain ⟨y0, y1, y2⟩ := HT.out.cells
  obtain ⟨r0, r1, r2⟩ := HT.out.res
  have kcv := KC.out _ HT.out.bel
  clear hb2
  go_wp2_with fail
  obtain ⟨z0, z1, z2⟩ := ((HT.out.b2 sx).put 4 0 sx).res
  refine bodyPost_ret (v := .tuple #[.agg #[.int .i64 4, .int .i64 0, .string sx], .int .i64 (1 + (L : Int) + (kk : Int))]) (by simp [results, Try.results35, go_sem, z0, z1, z2]) rfl ?_
  exact HY.out _ ((HT.out.b2 sx).put 4 0 sx).bel _ rfl
set_option maxRecDepth 100000 in
set_option maxHeartbeats 8000000 in
theorem tk_5ya (u kk : Nat) (r t : List UInt8) (ad : Addr) (cap : Nat) (w : World) (x0 : w.cell? ad = some (.int .u8 (5 : UInt8).toNat)) (hab : ad.block < w.heap.size) (hcap : t.length + 1 ≤ cap) (h1 : ¬ cap = 1) (hl : t.length + 1 ≤ 100000) (hr : RdB w w.heap.size (some (ad.add 1)) t) (ht : t = vL u ++ r) (hu : u < 18446744073709551616) (hn : zag u = (kk : Int)) (hk : kk ≤ r.length) (hc : cap = 1 + (vL u).length) : Calls Try.prog 35 #[.slice (some ad) (t.length + 1) cap] w (TkT w (5 :: t)) := by
  have hti : (0 : Int) < (t.length : Int) + 1 := by omega
  have htb : ((t.length : Int) + 1 == 0) = false := beq_false_of_ne (by omega)
  have h1i : (1 : Int) ≤ (t.length : Int) + 1 := by omega
  have hsl : (r.take kk).length = kk := by rw [List.length_take]; omega
  obtain ⟨sx, hsx⟩ := ba_of (r.take kk)
  have HMA := Lib.hid (tk_math (c := 5) (by decide) ht hn hk hsx)
  obtain ⟨L, HLL⟩ : ∃ L : Nat, Hid (L = (vL u).length) := ⟨_, Lib.hid rfl⟩
  have hL10 : (L : Int) ≤ 10 := by have := vL_10 hu; have := HLL.out; omega
  have hLR : (t.length : Int) = (L : Int) + (r.length : Int) := by have h3 := congrArg List.length ht; rw [List.length_append] at h3; have := HLL.out; omega
  have hli : (t.length : Int) ≤ 99999 := by omega
  have hk0 : (0 : Int) ≤ (kk : Int) := by omega
  have hk2 : (kk : Int) ≤ (t.length : Int) - (L : Int) := by omega
  have hk3 : (1 : Int) + (L : Int) + (kk : Int) ≤ (cap : Int) := by omega
  have hk4 : 1 + L + kk ≤ cap := by omega
  have hk5 : (0 : Int) ≤ 1 + (L : Int) := by omega
  have hk6 : (1 : Int) + (L : Int) ≤ 1 + (L : Int) + (kk : Int) := by omega
  have hk7 : (kk : Int) ≤ 99999 := by omega
  have HBL : Hid (1 + L + kk ≤ t.length + 1 ∧ sx.size ≤ t.length + 1) := Lib.hid (by
    have e1 : sx.size = kk := by have h := congrArg List.length hsx; rw [hsl] at h; rw [← h]; simp
    omega)
  have hrd : RdB w w.heap.size (if cap - 1 = L then some (ad.add 1) else (some (ad.add 1)).map (·.add L)) r := by
    have h := hr.drop (k := L) (cap := cap - 1) (by omega)
    rw [ht, HLL.out, List.drop_left] at h
    rw [HLL.out]
    exact h
  have HY : Hid (∀ W, Below w.heap.size w W → ∀ x : Int, x = 1 + (L : Int) + (kk : Int) → TkT w (5 :: t) (.returned (.tuple #[.agg #[.int .i64 5, .int .i64 0, .string sx], .int .i64 x])) W) := Lib.hid fun W hW x hx => ⟨hW, ⟨5, 0, sx⟩, 1 + L + kk, by rw [hx]; congr 3 <;> simp [Val.v], ⟨by show i64ok 5; unfold i64ok; omega, i64_0⟩, HBL.out.2, HBL.out.1, fun y r' hy e => by have h := HMA.out y r' hy e; rw [← HLL.out] at h; exact h⟩
  have hcL : cap = 1 + L := by rw [HLL.out]; exact hc
  subst hcL
  have hkz : kk = 0 := by omega
  have KC : Hid (∀ W, Below w.heap.size w W → (convert 26 9 (.slice (some ad) 0 0)).run Try.prog W = .ok (.string sx) W) := Lib.hid fun W hb => conv_rd (B := w.heap.size) (l := []) (RdB.nil _ _ _) rfl sx (by rw [hsx, hkz, List.take_zero])
  subst hkz
  have LG : Hid (∀ W, Below w.heap.size w W → Calls Try.prog 44 #[.slice (some (ad.add 1)) t.length L] W (Ans (.tuple #[.int .i64 0, .int .i64 (L : Int), .bool true]) W)) := Lib.hid fun W hb => by have h := refLong_yes u r t ht hu (some (ad.add 1)) t.length L rfl (by omega) W (by omega) ((hr.below hb (Nat.le_refl _)).more hb.size); rw [hn, ← HLL.out] at h; exact h
  have HT := Lib.hid (TB.new w 0 0 ⟨#[]⟩ 5 0 ⟨#[]⟩)
  obtain ⟨f0, f1, f2⟩ := HT.out.frozA
  obtain ⟨g0, g1, g2⟩ := HT.out.frozB
  obtain ⟨y0, y1, y2⟩ := HT.out.cells
  obtain ⟨r0, r1, r2⟩ := HT.out.res
  clear hcap hl hr hu ht hn hk hLR hrd hsl hsx hc 
  go_enter Try.func35, Try.ntmps35
  go_wp2_with fail
  refine (LG.out _ HT.out.bel).mono ?_
  rintro e w2 ⟨rfl, hb2⟩
  have HT := Lib.hid (HT.out.keep hb2)
  obtain ⟨f0, f1, f2⟩ := HT.out.frozA
  obtain ⟨g0, g1, g2⟩ := HT.out.frozB
  obtain ⟨y0, y1, y2⟩ := HT.out.cells
  obtain ⟨r0, r1, r2⟩ := HT.out.res
  have kcv := KC.out _ HT.out.bel
  clear hb2
  go_wp2_with fail
  obtain ⟨z0, z1, z2⟩ := ((HT.out.b2 sx).put 5 0 sx).res
  refine bodyPost_ret (v := .tuple #[.agg #[.int .i64 5, .int .i64 0, .string sx], .int .i64 (1 + (L : Int))]) (by simp [results, Try.results35, go_sem, z0, z1, z2]) rfl ?_
  exact HY.out _ ((HT.out.b2 sx).put 5 0 sx).bel _ (by simp)
set_option maxRecDepth 100000 in
set_option maxHeartbeats 8000000 in
theorem tk_5yb (u kk : Nat) (r t : List UInt8) (ad : Addr) (cap : Nat) (w : World) (x0 : w.cell? ad = some (.int .u8 (5 : UInt8).toNat)) (hab : ad.block < w.heap.size) (hcap : t.length + 1 ≤ cap) (h1 : ¬ cap = 1) (hl : t.length + 1 ≤ 100000) (hr : RdB w w.heap.size (some (ad.add 1)) t) (ht : t = vL u ++ r) (hu : u < 18446744073709551616) (hn : zag u = (kk : Int)) (hk : kk ≤ r.length) (hc : ¬ cap = 1 + (vL u).length) : Calls Try.prog 35 #[.slice (some ad) (t.length + 1) cap] w (TkT w (5 :: t)) := by
  have hti : (0 : Int) < (t.length : Int) + 1 := by omega
  have htb : ((t.length : Int) + 1 == 0) = false := beq_false_of_ne (by omega)
  have h1i : (1 : Int) ≤ (t.length : Int) + 1 := by omega
  have hsl : (r.take kk).length = kk := by rw [List.length_take]; omega
  obtain ⟨sx, hsx⟩ := ba_of (r.take kk)
  have HMA := Lib.hid (tk_math (c := 5) (by decide) ht hn hk hsx)
  obtain ⟨L, HLL⟩ : ∃ L : Nat, Hid (L = (vL u).length) := ⟨_, Lib.hid rfl⟩
  have hL10 : (L : Int) ≤ 10 := by have := vL_10 hu; have := HLL.out; omega
  have hLR : (t.length : Int) = (L : Int) + (r.length : Int) := by have h3 := congrArg List.length ht; rw [List.length_append] at h3; have := HLL.out; omega
  have hli : (t.length : Int) ≤ 99999 := by omega
  have hk0 : (0 : Int) ≤ (kk : Int) := by omega
  have hk2 : (kk : Int) ≤ (t.length : Int) - (L : Int) := by omega
  have hk3 : (1 : Int) + (L : Int) + (kk : Int) ≤ (cap : Int) := by omega
  have hk4 : 1 + L + kk ≤ cap := by omega
  have hk5 : (0 : Int) ≤ 1 + (L : Int) := by omega
  have hk6 : (1 : Int) + (L : Int) ≤ 1 + (L : Int) + (kk : Int) := by omega
  have hk7 : (kk : Int) ≤ 99999 := by omega
  have HBL : Hid (1 + L + kk ≤ t.length + 1 ∧ sx.size ≤ t.length + 1) := Lib.hid (by
    have e1 : sx.size = kk := by have h := congrArg List.length hsx; rw [hsl] at h; rw [← h]; simp
    omega)
  have hrd : RdB w w.heap.size (if cap - 1 = L then some (ad.add 1) else (some (ad.add 1)).map (·.add L)) r := by
    have h := hr.drop (k := L) (cap := cap - 1) (by omega)
    rw [ht, HLL.out, List.drop_left] at h
    rw [HLL.out]
    exact h
  have HY : Hid (∀ W, Below w.heap.size w W → ∀ x : Int, x = 1 + (L : Int) + (kk : Int) → TkT w (5 :: t) (.returned (.tuple #[.agg #[.int .i64 5, .int .i64 0, .string sx], .int .i64 x])) W) := Lib.hid fun W hW x hx => ⟨hW, ⟨5, 0, sx⟩, 1 + L + kk, by rw [hx]; congr 3 <;> simp [Val.v], ⟨by show i64ok 5; unfold i64ok; omega, i64_0⟩, HBL.out.2, HBL.out.1, fun y r' hy e => by have h := HMA.out y r' hy e; rw [← HLL.out] at h; exact h⟩
  have hcL : ¬ cap = 1 + L := by rw [HLL.out]; exact hc
  have KC : Hid (∀ W, Below w.heap.size w W → (convert 26 9 (.slice (some (ad.add (1 + L))) kk (cap - (1 + L)))).run Try.prog W = .ok (.string sx) W) := Lib.hid fun W hb => by
    rw [if_neg (by omega), Option.map_some, addr_add_add] at hrd
    exact conv_rd ((hrd.take kk).below hb (Nat.le_refl _)) hsl sx hsx
  have LG : Hid (∀ W, Below w.heap.size w W → Calls Try.prog 44 #[.slice (some (ad.add 1)) t.length (cap - 1)] W (Ans (.tuple #[.int .i64 (kk : Int), .int .i64 (L : Int), .bool true]) W)) := Lib.hid fun W hb => by have h := refLong_yes u r t ht hu (some (ad.add 1)) t.length (cap - 1) rfl (by omega) W (by omega) ((hr.below hb (Nat.le_refl _)).more hb.size); rw [hn, ← HLL.out] at h; exact h
  have HT := Lib.hid (TB.new w 0 0 ⟨#[]⟩ 5 0 ⟨#[]⟩)
  obtain ⟨f0, f1, f2⟩ := HT.out.frozA
  obtain ⟨g0, g1, g2⟩ := HT.out.frozB
  obtain ⟨y0, y1, y2⟩ := HT.out.cells
  obtain ⟨r0, r1, r2⟩ := HT.out.res
  clear hcap hl hr hu ht hn hk hLR hrd hsl hsx hc 
  go_enter Try.func35, Try.ntmps35
  go_wp2_with fail
  refine (LG.out _ HT.out.bel).mono ?_
  rintro e w2 ⟨rfl, hb2⟩
  have HT := Lib.hid (HT.out.keep hb2)
  obtain ⟨f0, f1, f2⟩ := HT.out.frozA
  obtain ⟨g0, g1, g2⟩ := HT.out.frozB
  obtain ⟨y0, y1, y2⟩ := HT.out.cells
  obtain ⟨r0, r1, r2⟩ := HT.out.res
  have kcv := KC.out _ HT.out.bel
  clear hb2
  go_wp2_with fail
  obtain ⟨z0, z1, z2⟩ := ((HT.out.b2 sx).put 5 0 sx).res
  refine bodyPost_ret (v := .tuple #[.agg #[.int .i64 5, .int .i64 0, .string sx], .int .i64 (1 + (L : Int) + (kk : Int))]) (by simp [results, Try.results35, go_sem, z0, z1, z2]) rfl ?_
  exact HY.out _ ((HT.out.b2 sx).put 5 0 sx).bel _ rfl
end Go.Proofs.Ytbbhddpfclgohaa
