/- The document's Short. -/
import Derived.Test.YtbbhddpfclgohaaWC
namespace Go.Proofs.Ytbbhddpfclgohaa
open Go.RowKit

theorem zig_ref_neg {n : Int} (h : i64ok n) (h0 : n < 0) : IntKind.u64.wrap (IntKind.u64.wrap (2 * IntKind.u64.wrap (wrap64 (-wrap64 (n + 1)))) + 1) = (zig n : Int) := by
  obtain ⟨h1, h2⟩ := h
  have e1 : wrap64 (-wrap64 (n + 1)) = -(n + 1) := by unfold wrap64; omega
  have e2 : IntKind.u64.wrap (-(n + 1)) = -(n + 1) := by rw [IntKind.wrap_u64]; omega
  have e3 : IntKind.u64.wrap (2 * -(n + 1)) = 2 * -(n + 1) := by rw [IntKind.wrap_u64]; omega
  rw [e1, e2, e3, IntKind.wrap_u64]
  unfold zig
  rw [if_neg (by omega)]
  omega
theorem zig_ref_pos {n : Int} (h : i64ok n) (h0 : ¬ n < 0) : IntKind.u64.wrap (2 * IntKind.u64.wrap n) = (zig n : Int) := by
  obtain ⟨h1, h2⟩ := h
  have e2 : IntKind.u64.wrap n = n := by rw [IntKind.wrap_u64]; omega
  rw [e2, IntKind.wrap_u64]
  unfold zig
  rw [if_pos (by omega)]
  omega
set_option maxRecDepth 100000 in
set_option maxHeartbeats 8000000 in
theorem refShort_any (n : Int) (hn : i64ok n) (w : World) : Calls Try.prog 29 #[.int .i64 n] w (ShortTo w n) := by
  obtain ⟨i0, hi0, hz0, hz1, hz2⟩ := info_parts info8
  have HN := Lib.hid hn
  by_cases h0 : n < 0
  · have HZ := Lib.hid (zig_ref_neg hn h0)
    clear hn
    go_enter Try.func29, Try.ntmps29
    go_wp2_with fail
    clear h0
    go_loopw [3, 4] (fun v3 v4 wr => SHL w n v3 v4 wr) (fun v3 _ _ => (intOf v3).toNat)
    case atStart => exact ⟨zig n, [], _, rfl, by rw [HZ.out], zig_lt HN.out.1 HN.out.2, rfl, OwnB.nil _ _, Below.refl _ _⟩
    case round =>
      obtain ⟨u, acc, y, rfl, rfl, hu, he, ho, hb⟩ := hrel
      have HO := Lib.hid ho
      have HE := Lib.hid he
      have HB := Lib.hid hb
      have HU := Lib.hid hu
      have HM : Hid (acc.length + 1 ≤ 1000000) := Lib.hid (by
        have h1 := congrArg List.length he
        rw [List.length_append] at h1
        have h2 := vL_10 (zig_lt HN.out.1 HN.out.2)
        omega)
      have HBZ : Hid (∀ o, w.heap.size ≤ (wr.alloc o).heap.size) := Lib.hid fun o => by have := HB.out.size; simp; omega
      obtain ⟨A2, cap2, hv, hcap2⟩ := ho.2
      subst hv
      clear ho he hb hcap2 hu
      by_cases h : u < 128
      · have hi : ¬ (128 : Int) ≤ (u : Int) := by omega
        have hi2 : (u : Int) < 128 := by omega
        have HQ : Hid (IntKind.u8.wrap (u : Int) = ((UInt8.ofNat u).toNat : Int)) := Lib.hid (by rw [ofNat_toNat (by omega), IntKind.wrap_u8]; omega)
        have HV : Hid (vL u = [UInt8.ofNat u]) := Lib.hid (vL_lo h)
        clear h
        go_wp2_with (at_builtin
                     refine wpList_appB rfl _ _ 26 rfl (B := w.heap.size) Try.underlying26 hi0 hz0 hz1 hz2 rfl (HO.out.below (alloc_below _ _)) rfl rfl (rd_one _ _ (UInt8.ofNat u) (by first | exact HQ.out | (rw [← HQ.out]; rw [IntKind.wrap_u8]; omega))) HM.out (HBZ.out _) ?_
                     intro v5 w5 ho5 hg5
                     have HY : Hid (ShortTo w n (.returned v5) w5) := Lib.hid ⟨v5, rfl, by rw [HE.out, HV.out]; exact ho5, HB.out.trans (((alloc_below wr _).mono HB.out.size).trans (hg5.toBelow (HBZ.out _) HO.out.ge))⟩
                     clear ho5 hg5)
        go_ret
        exact HY.out
      · have h2 : (128 : Int) ≤ (u : Int) := by omega
        have HQ : Hid ((u : Int) % 128 + 128 = ((UInt8.ofNat (u % 128 + 128)).toNat : Int)) := Lib.hid (by rw [ofNat_toNat (by omega)]; omega)
        have HV : Hid (vL u = UInt8.ofNat (u % 128 + 128) :: vL (u / 128)) := Lib.hid (vL_hi h)
        have HD : Hid (IntKind.u64.wrap ((u : Int) / 128) = ((u / 128 : Nat) : Int)) := Lib.hid (by have := HU.out; rw [IntKind.wrap_u64]; omega)
        clear h
        go_wp2_with (at_builtin
                     refine wpList_appB rfl _ _ 26 rfl (B := w.heap.size) Try.underlying26 hi0 hz0 hz1 hz2 rfl (HO.out.below (alloc_below _ _)) rfl rfl (rd_one _ _ (UInt8.ofNat (u % 128 + 128)) (by first | exact HQ.out | (rw [← HQ.out, IntKind.wrap_u8]; omega))) HM.out (HBZ.out _) ?_
                     intro v5 w5 ho5 hg5
                     have HY : Hid (∀ v3, v3 = .int .u64 ((u / 128 : Nat) : Int) → SHL w n v3 v5 w5) := Lib.hid (fun v3 h3 => ⟨u / 128, acc ++ [UInt8.ofNat (u % 128 + 128)], v5, rfl, h3, by have := HU.out; omega, by rw [HE.out, HV.out, List.append_assoc]; rfl, ho5, HB.out.trans (((alloc_below wr _).mono HB.out.size).trans (hg5.toBelow (HBZ.out _) HO.out.ge))⟩)
                     clear ho5 hg5)
        go_roundw
        case rel => first | exact HY.out _ (by rw [HD.out]) | ((repeat apply Exists.intro); exact ⟨HY.out _ (by rw [HD.out]), rfl⟩)
        case measure => simp [intOf]; have := HD.out; omega
  · have HZ := Lib.hid (zig_ref_pos hn h0)
    clear hn
    go_enter Try.func29, Try.ntmps29
    go_wp2_with fail
    clear h0
    go_loopw [3, 4] (fun v3 v4 wr => SHL w n v3 v4 wr) (fun v3 _ _ => (intOf v3).toNat)
    case atStart => exact ⟨zig n, [], _, rfl, by rw [HZ.out], zig_lt HN.out.1 HN.out.2, rfl, OwnB.nil _ _, Below.refl _ _⟩
    case round =>
      obtain ⟨u, acc, y, rfl, rfl, hu, he, ho, hb⟩ := hrel
      have HO := Lib.hid ho
      have HE := Lib.hid he
      have HB := Lib.hid hb
      have HU := Lib.hid hu
      have HM : Hid (acc.length + 1 ≤ 1000000) := Lib.hid (by
        have h1 := congrArg List.length he
        rw [List.length_append] at h1
        have h2 := vL_10 (zig_lt HN.out.1 HN.out.2)
        omega)
      have HBZ : Hid (∀ o, w.heap.size ≤ (wr.alloc o).heap.size) := Lib.hid fun o => by have := HB.out.size; simp; omega
      obtain ⟨A2, cap2, hv, hcap2⟩ := ho.2
      subst hv
      clear ho he hb hcap2 hu
      by_cases h : u < 128
      · have hi : ¬ (128 : Int) ≤ (u : Int) := by omega
        have hi2 : (u : Int) < 128 := by omega
        have HQ : Hid (IntKind.u8.wrap (u : Int) = ((UInt8.ofNat u).toNat : Int)) := Lib.hid (by rw [ofNat_toNat (by omega), IntKind.wrap_u8]; omega)
        have HV : Hid (vL u = [UInt8.ofNat u]) := Lib.hid (vL_lo h)
        clear h
        go_wp2_with (at_builtin
                     refine wpList_appB rfl _ _ 26 rfl (B := w.heap.size) Try.underlying26 hi0 hz0 hz1 hz2 rfl (HO.out.below (alloc_below _ _)) rfl rfl (rd_one _ _ (UInt8.ofNat u) (by first | exact HQ.out | (rw [← HQ.out]; rw [IntKind.wrap_u8]; omega))) HM.out (HBZ.out _) ?_
                     intro v5 w5 ho5 hg5
                     have HY : Hid (ShortTo w n (.returned v5) w5) := Lib.hid ⟨v5, rfl, by rw [HE.out, HV.out]; exact ho5, HB.out.trans (((alloc_below wr _).mono HB.out.size).trans (hg5.toBelow (HBZ.out _) HO.out.ge))⟩
                     clear ho5 hg5)
        go_ret
        exact HY.out
      · have h2 : (128 : Int) ≤ (u : Int) := by omega
        have HQ : Hid ((u : Int) % 128 + 128 = ((UInt8.ofNat (u % 128 + 128)).toNat : Int)) := Lib.hid (by rw [ofNat_toNat (by omega)]; omega)
        have HV : Hid (vL u = UInt8.ofNat (u % 128 + 128) :: vL (u / 128)) := Lib.hid (vL_hi h)
        have HD : Hid (IntKind.u64.wrap ((u : Int) / 128) = ((u / 128 : Nat) : Int)) := Lib.hid (by have := HU.out; rw [IntKind.wrap_u64]; omega)
        clear h
        go_wp2_with (at_builtin
                     refine wpList_appB rfl _ _ 26 rfl (B := w.heap.size) Try.underlying26 hi0 hz0 hz1 hz2 rfl (HO.out.below (alloc_below _ _)) rfl rfl (rd_one _ _ (UInt8.ofNat (u % 128 + 128)) (by first | exact HQ.out | (rw [← HQ.out, IntKind.wrap_u8]; omega))) HM.out (HBZ.out _) ?_
                     intro v5 w5 ho5 hg5
                     have HY : Hid (∀ v3, v3 = .int .u64 ((u / 128 : Nat) : Int) → SHL w n v3 v5 w5) := Lib.hid (fun v3 h3 => ⟨u / 128, acc ++ [UInt8.ofNat (u % 128 + 128)], v5, rfl, h3, by have := HU.out; omega, by rw [HE.out, HV.out, List.append_assoc]; rfl, ho5, HB.out.trans (((alloc_below wr _).mono HB.out.size).trans (hg5.toBelow (HBZ.out _) HO.out.ge))⟩)
                     clear ho5 hg5)
        go_roundw
        case rel => first | exact HY.out _ (by rw [HD.out]) | ((repeat apply Exists.intro); exact ⟨HY.out _ (by rw [HD.out]), rfl⟩)
        case measure => simp [intOf]; have := HD.out; omega
end Go.Proofs.Ytbbhddpfclgohaa
