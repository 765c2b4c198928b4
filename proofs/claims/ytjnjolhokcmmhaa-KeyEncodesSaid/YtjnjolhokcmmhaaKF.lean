/- Package key: a text's bytes, appended. -/
import Derived.Test.YtjnjolhokcmmhaaKE
namespace Go.Proofs.Ytjnjolhokcmmhaa
open Go.RowKit

/-- at the head of appendText's loop -/
def ATL (B : Nat) (w W2 : World) (cb : Nat) (v : Value) (xs l : List UInt8) (v0 v10 : Value) (wr : World) : Prop := ∃ (k : Nat) (y : Value), y = v0 ∧ k ≤ l.length ∧ v10 = .int .i64 k ∧ OwnB wr B y (xs ++ stuffL (l.take k)) ∧ Grew w v wr y ∧ wr.heap[cb]? = W2.heap[cb]?
theorem ATL.next {B : Nat} {w W2 : World} {cb : Nat} {v : Value} {xs l : List UInt8} {k : Nat} {c : UInt8} {v0 : Value} {wr : World} (hk : l[k]? = some c) (hg0 : Grew w v wr v0) (hcb : wr.heap[cb]? = W2.heap[cb]?)
    {w5 : World} {v5 v10 : Value} (ho : OwnB w5 B v5 (xs ++ stuffL (l.take k) ++ stuffL [c])) (hg : Grew wr v0 w5 v5) (hne : v0.ownBlock ≠ some cb) (hlt : cb < wr.heap.size) (h10 : v10 = .int .i64 ((k + 1 : Nat) : Int)) : ATL B w W2 cb v xs l v5 v10 w5 := by
  have hl : k < l.length := (List.getElem?_eq_some_iff.1 hk).1
  refine ⟨k + 1, _, rfl, hl, h10, ?_, hg0.trans hg, (hg.by_.block cb hlt (fun e => hne e.symm)).trans hcb⟩
  rw [List.take_add_one, hk, Option.toList_some, stuffL_app, ← List.append_assoc]
  exact ho
set_option maxRecDepth 100000 in
set_option maxHeartbeats 2000000 in
theorem appendText_any (B : Nat) (v : Value) (xs : List UInt8) (s : ByteArray) (hs : s.size ≤ 1000) (w : World) (hown : OwnB w B v xs) (hB : B ≤ w.heap.size) (hx : xs.length ≤ 10000) :
    Calls Try.prog 50 #[v, .string s] w (AppTo B w v (xs ++ (stuffL s.data.toList ++ [0, 1]))) := by
  obtain ⟨i0, hi, hz0, hz1, hz2⟩ := info_parts info8
  obtain ⟨A, cap, hv, hcap⟩ := hown.2
  obtain ⟨W2, cap2, hcv, hcells, hb2, hcap2, C, fr, hC, hfr⟩ := conv_bytes s w
  have hsi : (s.size : Int) ≤ 1000 := by omega
  have hll : s.data.toList.length = s.size := by simp
  have HS : Hid (ATL B w W2 w.heap.size v xs s.data.toList v (.int .i64 0) W2) := Lib.hid ⟨0, _, rfl, Nat.zero_le _, rfl, by simpa [stuffL] using hown.below hb2, Grew.below hb2, rfl⟩
  have HC := Lib.hid hcells
  have HCF := Lib.hid (And.intro hC hfr)
  have HLL := Lib.hid hll
  have HB2 := Lib.hid hb2
  clear hown hv hcap hcells hC hfr hll hb2 hcap2
  go_enter Try.func50, Try.ntmps50
  go_wp2_with fail
  clear hcv
  go_loopw [0, 10] (fun v0 v10 wr => ATL B w W2 w.heap.size v xs s.data.toList v0 v10 wr) (fun _ v10 _ => s.size - (intOf v10).toNat)
  case atStart => exact HS.out
  case round =>
    obtain ⟨k, y, rfl, hk, rfl, ho, hg, hcb⟩ := hrel
    rw [HLL.out] at hk
    have HO := Lib.hid ho
    have HG := Lib.hid hg
    have HCB := Lib.hid hcb
    clear ho hg hcb
    by_cases hlt : k < s.size
    · obtain ⟨c, hc⟩ : ∃ c, s.data.toList[k]? = some c := ⟨_, List.getElem?_eq_getElem (by rw [HLL.out]; exact hlt)⟩
      have hcell : wr.cell? ⟨w.heap.size, k, none⟩ = some (.int .u8 (c.toNat : Int)) := by
        rw [← HC.out k c hc]
        exact World.cell?_of_block HCB.out
      have hki : (k : Int) < (s.size : Int) := by omega
      have hne := HO.out.ne_fr (HCB.out.trans HCF.out.1) HCF.out.2
      have hcl : w.heap.size < wr.heap.size := (Array.getElem?_eq_some_iff.1 (HCB.out.trans HCF.out.1)).1
      have hst := stuffL_len (s.data.toList.take k)
      have htl : (s.data.toList.take k).length ≤ k := by rw [List.length_take]; omega
      have HM1 : Hid ((xs ++ stuffL (s.data.toList.take k)).length + 1 + 1 ≤ 1000000) := Lib.hid (by rw [List.length_append]; omega)
      have HBZ : Hid (∀ o, B ≤ (wr.alloc o).heap.size) := Lib.hid fun o => by have := HG.out.by_.size; simp; omega
      have HN : Hid (∀ o v5 w5, OwnB w5 B v5 (xs ++ stuffL (s.data.toList.take k) ++ stuffL [c]) → Grew (wr.alloc o) y w5 v5 → ∀ v10, v10 = .int .i64 ((k + 1 : Nat) : Int) → ATL B w W2 w.heap.size v xs s.data.toList v5 v10 w5) :=
        Lib.hid fun o v5 w5 ho5 hg5 v10 h10 => ATL.next hc HG.out HCB.out ho5 ((Grew.below (alloc_below _ _)).trans hg5) hne hcl h10
      have HCC := Lib.hid hc
      clear hk hlt hne hcl hst htl hc
      by_cases h0 : c = 0
      · subst h0
        go_wp2_with (at_builtin
                     first
                       | (refine wpList_appB rfl _ _ 23 rfl (B := B) Try.underlying23 hi hz0 hz1 hz2 rfl (HO.out.below (alloc_below _ _)) rfl rfl (rd_one _ _ 0 rfl) (Nat.le_of_succ_le HM1.out) (HBZ.out _) ?_
                          intro v5 w5 ho5 hg5
                          have HO5 := Lib.hid ho5
                          have HG5 := Lib.hid hg5
                          clear ho5 hg5)
                       | (refine wpList_appB rfl _ _ 23 rfl (B := B) Try.underlying23 hi hz0 hz1 hz2 rfl (HO5.out.below (alloc_below _ _)) rfl rfl (rd_one _ _ 255 rfl) (by rw [List.length_append]; exact HM1.out) (by have h1 := HBZ.out default; have h2 := HG5.out.by_.size; simp at h1 h2 ⊢; omega) ?_
                          intro v6 w6 ho6 hg6
                          have HY := Lib.hid (HN.out _ _ _ (by simpa [stuffL] using ho6) (HG5.out.trans ((Grew.below (alloc_below _ _)).trans hg6)))
                          clear ho6 hg6))
        go_roundw
        case rel => first | exact HY.out _ (by go_num) | ((repeat apply Exists.intro); exact ⟨HY.out _ (by go_num), rfl⟩)
        case measure => simp [intOf]; omega
      · have hz : ((c.toNat : Int) == 0) = false := by
          have := nz_pos h0
          have e0 : (0 : UInt8).toNat = 0 := rfl
          simp; omega
        have HST : Hid (stuffL [c] = [c]) := Lib.hid (by simp [stuffL, h0])
        clear h0
        go_wp2_with (at_builtin
                     refine wpList_appB rfl _ _ 23 rfl (B := B) Try.underlying23 hi hz0 hz1 hz2 rfl (HO.out.below (alloc_below _ _)) rfl rfl (rd_one _ _ c rfl) (Nat.le_of_succ_le HM1.out) (HBZ.out _) ?_
                     intro v5 w5 ho5 hg5
                     have HY := Lib.hid (HN.out _ _ _ (by rw [HST.out]; exact ho5) hg5)
                     clear ho5 hg5)
        go_roundw
        case rel => first | exact HY.out _ (by go_num) | ((repeat apply Exists.intro); exact ⟨HY.out _ (by go_num), rfl⟩)
        case measure => simp [intOf]; omega
    · have hkm : k = s.size := by omega
      subst hkm
      have HT : Hid (s.data.toList.take s.size = s.data.toList) := Lib.hid (by rw [List.take_of_length_le (by rw [HLL.out]; exact Nat.le_refl _)])
      have hst := stuffL_len s.data.toList
      have HM1 : Hid ((xs ++ stuffL s.data.toList).length + 2 ≤ 1000000) := Lib.hid (by rw [List.length_append]; have := HLL.out; omega)
      have HO1 : Hid (OwnB wr B y (xs ++ stuffL s.data.toList)) := Lib.hid (by have h := HO.out; rw [HT.out] at h; exact h)
      have HBZ : Hid (∀ o, B ≤ (wr.alloc o).heap.size) := Lib.hid fun o => by have := HG.out.by_.size; simp; omega
      have hnlt : ¬ ((s.size : Int) < (s.size : Int)) := by omega
      clear hk hlt hst HO
      go_wp2_with (at_builtin
                   refine wpList_appB rfl _ _ 23 rfl (B := B) Try.underlying23 hi hz0 hz1 hz2 rfl (HO1.out.below (alloc_below _ _)) rfl rfl (rd_two _ _ _ 0 1 rfl rfl) HM1.out (HBZ.out _) ?_
                   intro v5 w5 ho5 hg5
                   have HY : Hid (AppTo B w v (xs ++ (stuffL s.data.toList ++ [0, 1])) (.returned v5) w5) := Lib.hid ⟨v5, rfl, by rw [← List.append_assoc]; exact ho5, (HG.out.trans (Grew.below (alloc_below _ _))).trans hg5⟩
                   clear ho5 hg5)
      go_ret
      exact HY.out
end Go.Proofs.Ytjnjolhokcmmhaa
