/- Package key: a value's bytes, appended to a row of the call's own. -/
import Derived.Test.YtjnjolhokcmmhaaKW
namespace Go.Proofs.Ytjnjolhokcmmhaa
open Go.RowKit

/-- at the head of appendNumber's loop -/
def ANL (B : Nat) (w : World) (v : Value) (xs : List UInt8) (m u : Nat) (v0 v9 : Value) (wr : World) : Prop := ∃ (k : Nat) (acc : List UInt8) (A : Option Addr) (cap : Nat), k ≤ m ∧ v9 = .int .i64 k ∧ v0 = .slice A acc.length cap ∧ OwnB wr B v0 acc ∧ acc ++ be (m - k) u = xs ++ be m u ∧ acc.length = xs.length + k ∧ Grew w v wr v0
set_option maxRecDepth 100000 in
set_option maxHeartbeats 2000000 in
theorem appendNumber_any (B : Nat) (v : Value) (xs : List UInt8) (u m : Nat) (hu : u < 18446744073709551616) (hm : m = 1 ∨ m = 8) (w : World) (hown : OwnB w B v xs) (hB : B ≤ w.heap.size) (hx : xs.length ≤ 10000) :
    Calls Try.prog 49 #[v, .int .u64 u, .int .i64 m] w (AppTo B w v (xs ++ be m u)) := by
  obtain ⟨i0, hi, hz0, hz1, hz2⟩ := info_parts info8
  obtain ⟨A, cap, hv, hcap⟩ := hown.2
  subst hv
  have HS : Hid (ANL B w (.slice A xs.length cap) xs m u (.slice A xs.length cap) (.int .i64 0) w) := Lib.hid ⟨0, xs, A, cap, Nat.zero_le _, rfl, rfl, hown, by simp, by simp, Grew.refl _ _⟩
  have hm8 : m ≤ 8 := by omega
  have HM := Lib.hid hm
  have HU := Lib.hid hu
  clear hown hm hu
  go_enter Try.func49, Try.ntmps49
  go_wp2_with fail
  go_loopw [0, 9] (fun v0 v9 wr => ANL B w (.slice A xs.length cap) xs m u v0 v9 wr) (fun _ v9 _ => m - (intOf v9).toNat)
  case atStart => exact HS.out
  case round =>
    obtain ⟨k, acc, A2, cap2, hk, rfl, rfl, ho, he, hl, hg⟩ := hrel
    have HO := Lib.hid ho
    have HE := Lib.hid he
    have HL := Lib.hid hl
    have HG := Lib.hid hg
    clear ho he hl hg
    by_cases hlt : k < m
    · obtain ⟨c, hc⟩ : ∃ c, Hid (c = UInt8.ofNat (u / 256 ^ (m - k - 1) % 256)) := ⟨_, Lib.hid rfl⟩
      have HQ : Hid ((c.toNat : Int) = ((u / 256 ^ (m - k - 1) % 256 : Nat) : Int)) := Lib.hid (by rw [hc.out, ofNat_toNat (Nat.mod_lt _ (by omega))])
      have HN : Hid (∀ o v5 w5, OwnB w5 B v5 (acc ++ [c]) → Grew (wr.alloc o) (.slice A2 acc.length cap2) w5 v5 → ∀ v9, v9 = .int .i64 ((k + 1 : Nat) : Int) → ANL B w (.slice A xs.length cap) xs m u v5 v9 w5) := by
        refine Lib.hid fun o v5 w5 ho5 hg5 v9 h9 => ?_
        obtain ⟨A5, cap5, h5, _⟩ := ho5.2
        refine ⟨k + 1, acc ++ [c], A5, cap5, hlt, h9, h5, ho5, ?_, by rw [List.length_append, HL.out]; simp; omega, (HG.out.trans (Grew.below (alloc_below _ _))).trans hg5⟩
        have e : m - k = m - (k + 1) + 1 := by omega
        have e2 := HE.out
        rw [e] at e2
        have e3 : m - (k + 1) = m - k - 1 := by omega
        simp only [be] at e2
        rw [e3, ← hc.out] at e2
        rw [e3, List.append_assoc]
        exact e2
      have HM1 : Hid (acc.length + 1 ≤ 1000000) := Lib.hid (by rw [HL.out]; omega)
      have HBZ : Hid (∀ o, B ≤ (wr.alloc o).heap.size) := Lib.hid fun o => by have := HG.out.by_.size; simp; omega
      have hk9 : (m = 1 ∧ k = 0) ∨ (m = 8 ∧ (k = 0 ∨ k = 1 ∨ k = 2 ∨ k = 3 ∨ k = 4 ∨ k = 5 ∨ k = 6 ∨ k = 7)) := by have := HM.out; omega
      clear hlt hk hm8 HM
      rcases hk9 with ⟨rfl, rfl⟩ | ⟨rfl, rfl | rfl | rfl | rfl | rfl | rfl | rfl | rfl⟩
      all_goals
        go_wp2_with (at_builtin
                     refine wpList_appB rfl _ _ 23 rfl (B := B) Try.underlying23 hi hz0 hz1 hz2 rfl (HO.out.below (alloc_below _ _)) rfl rfl (rd_one _ _ c (by have h := HQ.out; simp only [Nat.reduceSub, Nat.reducePow] at h; omega)) HM1.out (HBZ.out _) ?_
                     intro v5 w5 ho5 hg5
                     have HY := Lib.hid (HN.out _ _ _ ho5 hg5)
                     clear ho5 hg5)
        go_roundw
        case rel => ((repeat apply Exists.intro); exact ⟨HY.out _ rfl, rfl⟩)
        case measure => simp [intOf]
    · have hkm : k = m := by omega
      subst hkm
      have HR : Hid (AppTo B w (.slice A xs.length cap) (xs ++ be k u) (.returned (.slice A2 acc.length cap2)) wr) := Lib.hid ⟨_, rfl, by have e := HE.out; rw [Nat.sub_self] at e; simp only [be, List.append_nil] at e; rw [← e]; exact HO.out, HG.out⟩
      clear hlt
      go_wp2_with fail
      go_ret
      exact HR.out
theorem appendNumber_1 (B : Nat) (v : Value) (xs : List UInt8) (u : Nat) (hu : u < 18446744073709551616) (w : World) (hown : OwnB w B v xs) (hB : B ≤ w.heap.size) (hx : xs.length ≤ 10000) :
    Calls Try.prog 49 #[v, .int .u64 u, .int .i64 1] w (AppTo B w v (xs ++ be 1 u)) := appendNumber_any B v xs u 1 hu (.inl rfl) w hown hB hx
theorem appendNumber_8 (B : Nat) (v : Value) (xs : List UInt8) (u : Nat) (hu : u < 18446744073709551616) (w : World) (hown : OwnB w B v xs) (hB : B ≤ w.heap.size) (hx : xs.length ≤ 10000) :
    Calls Try.prog 49 #[v, .int .u64 u, .int .i64 8] w (AppTo B w v (xs ++ be 8 u)) := appendNumber_any B v xs u 8 hu (.inr rfl) w hown hB hx
end Go.Proofs.Ytjnjolhokcmmhaa
