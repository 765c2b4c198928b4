/- Package letter: the nodes of bits; whole. -/
import Derived.Test.YthdhifnafgidaaaZK
namespace Go.Proofs.Ythdhifnafgidaaa
open Go.RowKit

def nodesTo (b i : Nat) : List Int := ((List.range i).filter b.testBit).map Int.ofNat
theorem nodesTo_all (b : Nat) : nodesTo b 16 = nodesI b := rfl
theorem nodesTo_yes {b i : Nat} (h : b.testBit i = true) : nodesTo b (i + 1) = nodesTo b i ++ [(i : Int)] := by
  unfold nodesTo
  rw [List.range_succ, List.filter_append, List.map_append]
  simp [h]
theorem nodesTo_no {b i : Nat} (h : b.testBit i = false) : nodesTo b (i + 1) = nodesTo b i := by
  unfold nodesTo
  rw [List.range_succ, List.filter_append, List.map_append]
  simp [h]
theorem nodesTo_len (b i : Nat) : (nodesTo b i).length ≤ i := by
  unfold nodesTo
  rw [List.length_map]
  exact Nat.le_trans (List.length_filter_le _ _) (by simp)
theorem and1 {b i : Nat} (hb : b < 65536) : bits .and .i64 ((b : Int) / 2 ^ i) 1 = if b.testBit i = true then 1 else 0 := by
  have e : ((b : Int) / 2 ^ i) = ((b / 2 ^ i : Nat) : Int) := by simp
  have hle : b / 2 ^ i ≤ b := Nat.div_le_self _ _
  rw [e, Nat.testBit_eq_decide_div_mod_eq]
  generalize b / 2 ^ i = a at *
  have h1 : (BitVec.ofInt 64 (a : Int)).toNat = a := by rw [BitVec.toNat_ofInt]; simp; omega
  show IntKind.i64.wrap (((BitVec.ofInt 64 (a : Int)) &&& (BitVec.ofInt 64 1)).toNat : Int) = _
  rw [BitVec.toNat_and, h1, show (BitVec.ofInt 64 1).toNat = 1 by decide, Nat.and_one_is_mod, IntKind.wrap_i64]
  by_cases h : a % 2 = 1
  · simp [h]
  · simp [h]; omega
def NdT (w : World) (l : List Int) (e : Ending) (w' : World) : Prop := ∃ v, e = .returned v ∧ OwnI w' w.heap.size v l ∧ Below w.heap.size w w'
def NdL (w : World) (b : Nat) (v3 v5 : Value) (wr : World) : Prop := ∃ (i : Nat) (y : Value), y = v3 ∧ v5 = .int .i64 i ∧ i ≤ 16 ∧ OwnI wr w.heap.size y (nodesTo b i) ∧ Below w.heap.size w wr
set_option maxRecDepth 100000 in
set_option maxHeartbeats 4000000 in
theorem nodes_any (b : Nat) (hb : b < 65536) (w : World) : Calls Try.prog 55 #[.int .i64 (b : Int)] w (NdT w (nodesI b)) := by
  have HBI := Lib.hid hb
  have hb0 : 0 ≤ (b : Int) := by omega
  have HST : Hid (NdL w b (.slice none 0 0) (.int .i64 0) w) := Lib.hid ⟨0, _, rfl, rfl, by omega, OwnI.nil _ _, Below.refl _ _⟩
  clear hb
  go_enter Try.func55, Try.ntmps55
  go_wp2_with fail
  go_loopw [3, 5] (fun v3 v5 wr => NdL w b v3 v5 wr) (fun _ v5 _ => 16 - (intOf v5).toNat)
  case atStart => exact HST.out
  case round =>
    obtain ⟨i, y, rfl, rfl, hi, ho, hb⟩ := hrel
    have HO := Lib.hid ho
    have HB := Lib.hid hb
    clear ho hb
    by_cases hlt : i < 16
    · have hlti : (i : Int) < 16 := by omega
      have hi0 : ¬ (i : Int) < 0 := by omega
      have HAN := Lib.hid (and1 (i := i) HBI.out)
      cases hbit : b.testBit i with
      | true =>
        have hbt : (bits .and .i64 ((b : Int) / 2 ^ i) 1 == 1) = true := by rw [HAN.out, hbit]; rfl
        have HM : Hid ((nodesTo b i).length + [(i : Int)].length ≤ 1000000) := Lib.hid (by have := nodesTo_len b i; simp; omega)
        have HBZ := Lib.hid (Nat.le_trans HB.out.size (alloc_below wr (.cells #[.int .i64 (i : Int)] 3)).size)
        have HN : Hid (∀ v6 w6 v5, v5 = .int .i64 ((i + 1 : Nat) : Int) → OwnI w6 w.heap.size v6 (nodesTo b i ++ [(i : Int)]) → Grew (wr.alloc (.cells #[.int .i64 (i : Int)] 3)) y w6 v6 → NdL w b v6 v5 w6) := Lib.hid fun v6 w6 v5 h5 ho hg => ⟨i + 1, _, rfl, h5, by omega, by rw [nodesTo_yes hbit]; exact ho, (HB.out.trans ((alloc_below wr _).mono HB.out.size)).trans (hg.toBelow HBZ.out HO.out.ge)⟩
        clear hbit hi
        go_wp2_with (refine wpList_appI (xs := nodesTo b i) (ys := [(i : Int)]) (B := w.heap.size) rfl _ _ 30 rfl Try.underlying30 rfl (HO.out.below (alloc_below wr _)) rfl rfl (rd_oneI wr _) HM.out HBZ.out ?_
                     intro v6 w6 ho6 hg6
                     have HY := Lib.hid (fun v5 h5 => HN.out v6 w6 v5 h5 ho6 hg6)
                     clear ho6 hg6)
        go_roundw
        case rel => first | exact HY.out _ (by go_num) | ((repeat apply Exists.intro); exact ⟨HY.out _ (by go_num), rfl⟩)
        case measure => simp [intOf]; omega
      | false =>
        have hbt : (bits .and .i64 ((b : Int) / 2 ^ i) 1 == 1) = false := by rw [HAN.out, hbit]; rfl
        have HN : Hid (∀ v5, v5 = .int .i64 ((i + 1 : Nat) : Int) → NdL w b y v5 wr) := Lib.hid fun v5 h5 => ⟨i + 1, _, rfl, h5, by omega, by rw [nodesTo_no hbit]; exact HO.out, HB.out⟩
        clear hbit hi
        go_wp2_with fail
        go_roundw
        case rel => first | exact HN.out _ (by go_num) | ((repeat apply Exists.intro); exact ⟨HN.out _ (by go_num), rfl⟩)
        case measure => simp [intOf]; omega
    · have hie : i = 16 := by omega
      have HO2 : Hid (OwnI wr w.heap.size y (nodesI b)) := Lib.hid (by have h := HO.out; rw [hie] at h; exact h)
      have hlti : ¬ (i : Int) < 16 := by omega
      clear hlt hi hie HO
      go_wp2_with fail
      go_ret
      exact ⟨_, rfl, HO2.out, HB.out⟩
end Go.Proofs.Ythdhifnafgidaaa
