/- The document's bytes of a number of a key. -/
import Derived.Test.YtjnjolhokcmmhaaKPC
namespace Go.Proofs.Ytjnjolhokcmmhaa
open Go.RowKit

/-- at the head of the number's loop -/
def ONL (w : World) (u : Nat) (cs : List UInt8) (v3 v5 : Value) (wr : World) : Prop := ∃ (k : Nat) (i : Int) (acc : List UInt8) (A : Option Addr) (cap : Nat), k ≤ 8 ∧ v5 = .int .i64 i ∧ i = 56 - 8 * (k : Int) ∧ v3 = .slice A acc.length cap ∧ OwnB wr w.heap.size v3 acc ∧ acc ++ be (8 - k) u = cs ∧ acc.length = 1 + k ∧ Below w.heap.size w wr
set_option maxRecDepth 100000 in
set_option maxHeartbeats 4000000 in
theorem one_2 (n : Int) (hn : i64ok n) (s : ByteArray) (w : World) : Calls Try.prog 37 #[.agg #[.int .i64 2, .int .i64 n, .string s]] w (OneT w (2 :: be 8 (offN n))) := by
  obtain ⟨i0, hi, hz0, hz1, hz2⟩ := info_parts info8
  obtain ⟨u, HU⟩ : ∃ u : Nat, Hid (u = offN n) := ⟨_, Lib.hid rfl⟩
  have hxo := off_xor hn
  have HU64 : Hid (u < 18446744073709551616) := Lib.hid (by rw [HU.out]; exact off_64 hn)
  rw [← HU.out] at hxo ⊢
  have HS : Hid (ONL w u (2 :: be 8 u) (.slice (some ⟨w.heap.size + 1, 0, none⟩) 1 1) (.int .i64 56) ((w.alloc (.cells #[.int .i64 2, .int .i64 n, .string s] 68)).alloc (.cells #[.int .u8 2] 5))) := Lib.hid ⟨0, 56, [2], _, _, Nat.zero_le _, rfl, rfl, rfl, own_one2 (Nat.le_refl _) 2 2 rfl, rfl, rfl, alloc2_below _ _ _⟩
  clear hn
  go_enter Try.func37, Try.ntmps37
  go_wp2_with fail
  clear hxo
  go_loopw [3, 5] (fun v3 v5 wr => ONL w u (2 :: be 8 u) v3 v5 wr) (fun _ v5 _ => (intOf v5 + 8).toNat)
  case atStart => exact HS.out
  case round =>
    obtain ⟨k, i, acc, A2, cap2, hk, rfl, hik, rfl, ho, he, hl, hb⟩ := hrel
    have HO := Lib.hid ho
    have HE := Lib.hid he
    have HL := Lib.hid hl
    have HB := Lib.hid hb
    clear ho he hl hb
    by_cases hlt : k < 8
    · obtain ⟨c, hc⟩ : ∃ c, Hid (c = UInt8.ofNat (u / 256 ^ (8 - k - 1) % 256)) := ⟨_, Lib.hid rfl⟩
      have HQ : Hid ((c.toNat : Int) = ((u / 256 ^ (8 - k - 1) % 256 : Nat) : Int)) := Lib.hid (by rw [hc.out, ofNat_toNat (Nat.mod_lt _ (by omega))])
      have HN : Hid (∀ o v3 w5, OwnB w5 w.heap.size v3 (acc ++ [c]) → Grew (wr.alloc o) (.slice A2 acc.length cap2) w5 v3 → ∀ i5 v5, v5 = .int .i64 i5 → i5 = 56 - 8 * ((k + 1 : Nat) : Int) → ONL w u (2 :: be 8 u) v3 v5 w5) := by
        refine Lib.hid fun o v3 w5 ho5 hg5 i5 v5 h9 h10 => ?_
        obtain ⟨A5, cap5, h5, _⟩ := ho5.2
        have hbo := HB.out.trans ((alloc_below wr o).mono HB.out.size)
        refine ⟨k + 1, i5, acc ++ [c], A5, cap5, hlt, h9, h10, h5, ho5, ?_, by rw [List.length_append, HL.out]; simp; omega, hbo.trans (hg5.toBelow hbo.size HO.out.ge)⟩
        have e : 8 - k = 8 - (k + 1) + 1 := by omega
        have e2 := HE.out
        rw [e] at e2
        have e3 : 8 - (k + 1) = 8 - k - 1 := by omega
        simp only [be] at e2
        rw [e3, ← hc.out] at e2
        rw [e3, List.append_assoc]
        exact e2
      have HM1 : Hid (acc.length + 1 ≤ 1000000) := Lib.hid (by rw [HL.out]; omega)
      have HBZ : Hid (∀ o, w.heap.size ≤ (wr.alloc o).heap.size) := Lib.hid fun o => by have := HB.out.size; simp; omega
      have hk9 : k = 0 ∨ k = 1 ∨ k = 2 ∨ k = 3 ∨ k = 4 ∨ k = 5 ∨ k = 6 ∨ k = 7 := by omega
      clear hlt hk
      rcases hk9 with rfl | rfl | rfl | rfl | rfl | rfl | rfl | rfl
      all_goals
        simp at hik
        subst hik
        go_wp2_with (at_builtin
                     refine wpList_appB rfl _ _ 23 rfl (B := w.heap.size) Try.underlying23 hi hz0 hz1 hz2 rfl (HO.out.below (alloc_below _ _)) rfl rfl (rd_one _ _ c (by have h := HQ.out; simp only [Nat.reduceSub, Nat.reducePow] at h; omega)) HM1.out (HBZ.out _) ?_
                     intro v5 w5 ho5 hg5
                     have HY := Lib.hid (HN.out _ _ _ ho5 hg5)
                     clear ho5 hg5)
        go_roundw
        case rel => exact HY.out _ _ rfl (by simp)
        case measure => simp [intOf]
    · have hkm : k = 8 := by omega
      subst hkm
      simp at hik
      subst hik
      have HR : Hid (OneT w (2 :: be 8 u) (.returned (.slice A2 acc.length cap2)) wr) := Lib.hid ⟨_, rfl, by have e := HE.out; rw [Nat.sub_self] at e; simp only [be, List.append_nil] at e; rw [← show acc = 2 :: be 8 u from by rw [e]; rfl]; exact HO.out, HB.out⟩
      clear hlt
      go_wp2_with fail
      go_ret
      exact HR.out
set_option maxRecDepth 100000 in
set_option maxHeartbeats 4000000 in
theorem one_3 (n : Int) (hn : i64ok n) (s : ByteArray) (w : World) : Calls Try.prog 37 #[.agg #[.int .i64 3, .int .i64 n, .string s]] w (OneT w (3 :: be 8 (offN n))) := by
  obtain ⟨i0, hi, hz0, hz1, hz2⟩ := info_parts info8
  obtain ⟨u, HU⟩ : ∃ u : Nat, Hid (u = offN n) := ⟨_, Lib.hid rfl⟩
  have hxo := off_xor hn
  have HU64 : Hid (u < 18446744073709551616) := Lib.hid (by rw [HU.out]; exact off_64 hn)
  rw [← HU.out] at hxo ⊢
  have HS : Hid (ONL w u (3 :: be 8 u) (.slice (some ⟨w.heap.size + 1, 0, none⟩) 1 1) (.int .i64 56) ((w.alloc (.cells #[.int .i64 3, .int .i64 n, .string s] 68)).alloc (.cells #[.int .u8 3] 5))) := Lib.hid ⟨0, 56, [3], _, _, Nat.zero_le _, rfl, rfl, rfl, own_one2 (Nat.le_refl _) 3 3 rfl, rfl, rfl, alloc2_below _ _ _⟩
  clear hn
  go_enter Try.func37, Try.ntmps37
  go_wp2_with fail
  clear hxo
  go_loopw [3, 5] (fun v3 v5 wr => ONL w u (3 :: be 8 u) v3 v5 wr) (fun _ v5 _ => (intOf v5 + 8).toNat)
  case atStart => exact HS.out
  case round =>
    obtain ⟨k, i, acc, A2, cap2, hk, rfl, hik, rfl, ho, he, hl, hb⟩ := hrel
    have HO := Lib.hid ho
    have HE := Lib.hid he
    have HL := Lib.hid hl
    have HB := Lib.hid hb
    clear ho he hl hb
    by_cases hlt : k < 8
    · obtain ⟨c, hc⟩ : ∃ c, Hid (c = UInt8.ofNat (u / 256 ^ (8 - k - 1) % 256)) := ⟨_, Lib.hid rfl⟩
      have HQ : Hid ((c.toNat : Int) = ((u / 256 ^ (8 - k - 1) % 256 : Nat) : Int)) := Lib.hid (by rw [hc.out, ofNat_toNat (Nat.mod_lt _ (by omega))])
      have HN : Hid (∀ o v3 w5, OwnB w5 w.heap.size v3 (acc ++ [c]) → Grew (wr.alloc o) (.slice A2 acc.length cap2) w5 v3 → ∀ i5 v5, v5 = .int .i64 i5 → i5 = 56 - 8 * ((k + 1 : Nat) : Int) → ONL w u (3 :: be 8 u) v3 v5 w5) := by
        refine Lib.hid fun o v3 w5 ho5 hg5 i5 v5 h9 h10 => ?_
        obtain ⟨A5, cap5, h5, _⟩ := ho5.2
        have hbo := HB.out.trans ((alloc_below wr o).mono HB.out.size)
        refine ⟨k + 1, i5, acc ++ [c], A5, cap5, hlt, h9, h10, h5, ho5, ?_, by rw [List.length_append, HL.out]; simp; omega, hbo.trans (hg5.toBelow hbo.size HO.out.ge)⟩
        have e : 8 - k = 8 - (k + 1) + 1 := by omega
        have e2 := HE.out
        rw [e] at e2
        have e3 : 8 - (k + 1) = 8 - k - 1 := by omega
        simp only [be] at e2
        rw [e3, ← hc.out] at e2
        rw [e3, List.append_assoc]
        exact e2
      have HM1 : Hid (acc.length + 1 ≤ 1000000) := Lib.hid (by rw [HL.out]; omega)
      have HBZ : Hid (∀ o, w.heap.size ≤ (wr.alloc o).heap.size) := Lib.hid fun o => by have := HB.out.size; simp; omega
      have hk9 : k = 0 ∨ k = 1 ∨ k = 2 ∨ k = 3 ∨ k = 4 ∨ k = 5 ∨ k = 6 ∨ k = 7 := by omega
      clear hlt hk
      rcases hk9 with rfl | rfl | rfl | rfl | rfl | rfl | rfl | rfl
      all_goals
        simp at hik
        subst hik
        go_wp2_with (at_builtin
                     refine wpList_appB rfl _ _ 23 rfl (B := w.heap.size) Try.underlying23 hi hz0 hz1 hz2 rfl (HO.out.below (alloc_below _ _)) rfl rfl (rd_one _ _ c (by have h := HQ.out; simp only [Nat.reduceSub, Nat.reducePow] at h; omega)) HM1.out (HBZ.out _) ?_
                     intro v5 w5 ho5 hg5
                     have HY := Lib.hid (HN.out _ _ _ ho5 hg5)
                     clear ho5 hg5)
        go_roundw
        case rel => exact HY.out _ _ rfl (by simp)
        case measure => simp [intOf]
    · have hkm : k = 8 := by omega
      subst hkm
      simp at hik
      subst hik
      have HR : Hid (OneT w (3 :: be 8 u) (.returned (.slice A2 acc.length cap2)) wr) := Lib.hid ⟨_, rfl, by have e := HE.out; rw [Nat.sub_self] at e; simp only [be, List.append_nil] at e; rw [← show acc = 3 :: be 8 u from by rw [e]; rfl]; exact HO.out, HB.out⟩
      clear hlt
      go_wp2_with fail
      go_ret
      exact HR.out
end Go.Proofs.Ytjnjolhokcmmhaa
