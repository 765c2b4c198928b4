/- The document's Encode of a row. -/
import Derived.Test.YtbbhddpfclgohaaWK
import Derived.Test.YtbbhddpfclgohaaWE
import Derived.Test.YtbbhddpfclgohaaRO
namespace Go.Proofs.Ytbbhddpfclgohaa
open Go.RowKit

theorem box_far {w W w5 : World} {B : Nat} {v v5 : Value} {l : List UInt8} {p q : Obj} (h : OwnB w B v l) (hb : W.heap[w.heap.size]? = some q) (hg : Grew (W.alloc p) v w5 v5) : w5.heap[w.heap.size]? = some q ∧ v5.ownBlock ≠ some w.heap.size := by
  have hlt : w.heap.size < W.heap.size := (Array.getElem?_eq_some_iff.1 hb).1
  refine ⟨?_, fun e => ?_⟩
  · refine (hg.by_.block w.heap.size (by simp; omega) (fun e => by have := h.lt _ e.symm; omega)).trans ?_
    rw [Below.heap_alloc _ _ _ hlt]
    exact hb
  · rcases hg.at_ with h1 | h1
    · have := h.lt _ (h1.symm.trans e); omega
    · have := h1 _ e
      simp at this
      omega
theorem box_far' {W w5 : World} {b : Nat} {v v5 : Value} {q : Obj} (hne : v.ownBlock ≠ some b) (hb : W.heap[b]? = some q) (hg : Grew W v w5 v5) : w5.heap[b]? = some q :=
  (hg.by_.block b (Array.getElem?_eq_some_iff.1 hb).1 (fun e => hne e.symm)).trans hb
/-- at the head of its loop -/
def RFE (w : World) (l : List Val) (v4 v5 : Value) (wr : World) : Prop := ∃ (k : Nat) (y : Value), y = v4 ∧ k ≤ l.length ∧ v5 = .int .i64 k ∧ OwnB wr w.heap.size y (UInt8.ofNat l.length :: rowL (l.take k)) ∧ Below w.heap.size w wr ∧ (∀ x ∈ l.take k, rightB x = true)
set_option maxRecDepth 100000 in
set_option maxHeartbeats 40000000 in
theorem refEncodeR_any (l : List Val) (A : Option Addr) (cap : Nat) (w : World) (hok : AllOk l) (hr : RdV w w.heap.size A l) :
    Calls Try.prog 18 #[.slice A l.length cap] w (EncPR w l) := by
  obtain ⟨i0, hi, hz0, hz1, hz2⟩ := info_parts info8
  have HR := Lib.hid hr
  have HK := Lib.hid hok
  clear hr hok
  by_cases h16 : l.length ≤ 16
  · have h16i : ¬ (16 : Int) < (l.length : Int) := by omega
    have HC : Hid (∀ x : Int, x = (l.length : Int) ∨ x = IntKind.u8.wrap (l.length : Int) → x = ((UInt8.ofNat l.length).toNat : Int)) := Lib.hid fun x hx => by rw [ofNat_toNat (by omega)]; rcases hx with rfl | rfl; rfl; rw [IntKind.wrap_u8]; omega
    go_enter Try.func18, Try.ntmps18
    go_wp2_with fail
    go_loopw [4, 5] (fun v4 v5 wr => RFE w l v4 v5 wr) (fun _ v5 _ => l.length - (intOf v5).toNat)
    case atStart => exact ⟨0, _, rfl, Nat.zero_le _, rfl, own_start _ _ (HC.out _ (by first | exact .inl rfl | exact .inr rfl)), alloc_below _ _, fun x hx => by simp at hx⟩
    case round =>
      obtain ⟨k, y, rfl, hk, rfl, ho, hb, hright⟩ := hrel
      obtain ⟨A2, cap2, hv2, hcap2⟩ := ho.2
      subst hv2
      have HO := Lib.hid ho
      have HB := Lib.hid hb
      have HT := Lib.hid hright
      clear ho hb hright hcap2
      by_cases hlt : k < l.length
      · obtain ⟨x, hx⟩ : ∃ x, l[k]? = some x := ⟨_, List.getElem?_eq_getElem hlt⟩
        obtain ⟨b, o, hA, c0, c1, c2⟩ := HR.out.at_ hx HB.out (Nat.le_refl _)
        subst hA
        have hki : (k : Int) < (l.length : Int) := by omega
        have hk16 : (k : Int) ≤ 16 := by omega
        have hkd : decide (k < l.length) = true := decide_eq_true hlt
        have hxm : x ∈ l := List.mem_of_getElem? hx
        have RA := Lib.hid (refRight_any x (HK.out x hxm).2)
        have hok := (HK.out x hxm).1
        have HTK : Hid (l.take (k + 1) = l.take k ++ [x]) := Lib.hid (by rw [List.take_add_one, hx, Option.toList_some])
        obtain ⟨xs, HXS⟩ : ∃ xs, Hid (xs = UInt8.ofNat l.length :: rowL (l.take k)) := ⟨_, Lib.hid rfl⟩
        rw [← HXS.out] at HO ⊢
        have HL : Hid (xs.length ≤ 9000) := Lib.hid (by
          have h := rowL_len (l := l.take k) (fun z hz => ⟨HT.out z hz, (HK.out z (List.mem_of_mem_take hz)).1⟩)
          have h2 : (l.take k).length ≤ k := by rw [List.length_take]; omega
          rw [HXS.out, List.length_cons]
          omega)
        have HBX : Hid ((wr.alloc (.cells #[.int .i64 x.k, .int .i64 x.n, .string x.s] 45)).heap[wr.heap.size]? = some (.cells #[.int .i64 x.k, .int .i64 x.n, .string x.s] 45 (0, 0))) := Lib.hid (heap_alloc_new _ _)
        have HBA := Lib.hid (alloc_below wr (.cells #[.int .i64 x.k, .int .i64 x.n, .string x.s] 45))
        cases hrx : rightB x with
        | false =>
          rw [hrx] at RA
          have HN : Hid (¬ encOk l) := Lib.hid (fun h => by have := h.2 x hxm; rw [hrx] at this; cases this)
          clear hrx hx hok hxm hk hlt
          go_wp2_with (go_at_call 28; refine (RA.out _).mono ?_; rintro e w2 ⟨rfl, hb2⟩; have HY : Hid (EncPR w l (.returned (.tuple #[.slice none 0 0, .int .i64 51])) w2) := Lib.hid ⟨HB.out.trans ((HBA.out.trans (hb2.mono HBA.out.size)).mono HB.out.size), .inr ⟨HN.out, rfl⟩⟩; clear hb2)
          go_ret2
          exact HY.out
        | true =>
          rw [hrx] at RA
          have hc := Val.R.cases (x := x) ⟨hrx, hok⟩
          have HNX : Hid (∀ v4 v5 w6, v5 = .int .i64 ((k + 1 : Nat) : Int) → OwnB w6 w.heap.size v4 (xs ++ rowV x) → Below w.heap.size w w6 → RFE w l v4 v5 w6) := Lib.hid fun v4 v5 w6 h5 ho6 hb6 => ⟨k + 1, _, rfl, hlt, h5, by
              have h := ho6
              rw [HXS.out] at h
              rw [HTK.out, rowL_snoc]
              exact h, hb6, by
              intro z hz
              rw [HTK.out, List.mem_append] at hz
              rcases hz with hz | hz
              · exact HT.out z hz
              · rw [List.mem_singleton] at hz; rw [hz]; exact hrx⟩
          have HM1 : Hid (xs.length + 1 ≤ 1000000) := Lib.hid (by have := HL.out; omega)
          obtain ⟨xk, xn, xt⟩ := x
          simp only at hc c0 c1 c2
          clear hrx hx hok hxm hk hlt HTK
          go_wp2_with fail
          refine (RA.out _).mono ?_
          rintro e w2 ⟨rfl, hb2⟩
          have HX2 := Lib.hid ((hb2.block _ (Array.getElem?_eq_some_iff.1 HBX.out).1).trans HBX.out)
          have HB2 := Lib.hid (HBA.out.trans (hb2.mono HBA.out.size))
          have HO2 := Lib.hid (HO.out.below HB2.out)
          have HBW := Lib.hid (HB.out.trans (HB2.out.mono HB.out.size))
          clear hb2
          obtain ⟨x0, x1, x2⟩ := box3 HX2.out
          rcases hc with ⟨rfl, rfl, rfl⟩ | ⟨rfl, hn, rfl⟩ | ⟨hk, rfl, hn⟩ | ⟨hk, rfl, hs⟩
          · go_wp2_with (first
              | (at_builtin
                 refine wpList_appB (xs := xs) (ys := [0]) (B := w.heap.size) rfl _ _ 26 rfl Try.underlying26 hi hz0 hz1 hz2 rfl (HO2.out.below (alloc_below w2 _)) rfl rfl (rd_one w2 _ 0 rfl) HM1.out (Nat.le_trans HBW.out.size (alloc_below w2 _).size) ?_
                 intro v5 w5 ho5 hg5
                 have HO5 := Lib.hid ho5
                 have HX5 := Lib.hid (box_far HO.out HX2.out hg5)
                 have HB5 := Lib.hid (HBW.out.trans (((alloc_below w2 _).mono HBW.out.size).trans (hg5.toBelow (Nat.le_trans HBW.out.size (alloc_below w2 _).size) HO.out.ge)))
                 have HL5 : Hid ((xs ++ [0]).length ≤ 9001) := Lib.hid (by rw [List.length_append]; simp; exact HL.out)
                 obtain ⟨x0, x1, x2⟩ := box3 HX5.out.1
                 have HY : Hid (∀ v, v = .int .i64 ((k + 1 : Nat) : Int) → RFE w l v5 v w5) := Lib.hid fun v hv => HNX.out v5 v w5 hv ho5 HB5.out
                 clear ho5 hg5)
              | fail)
            go_roundw
            case rel => first | exact HY.out _ (by go_num) | ((repeat apply Exists.intro); exact ⟨HY.out _ (by go_num), rfl⟩)
            case measure => simp [intOf]; omega
          · rcases hn with rfl | rfl
            · go_wp2_with (first
                | (at_builtin
                   refine wpList_appB (xs := xs ++ [1]) (ys := [0]) (B := w.heap.size) rfl _ _ 26 rfl Try.underlying26 hi hz0 hz1 hz2 rfl (HO5.out.below (alloc_below _ _)) rfl rfl (rd_one _ _ 0 rfl) (by have := HL5.out; simp at this ⊢; omega) (Nat.le_trans HB5.out.size (alloc_below _ _).size) ?_
                   intro v6 w6 ho6 hg6
                   have HY : Hid (∀ v, v = .int .i64 ((k + 1 : Nat) : Int) → RFE w l v6 v w6) := Lib.hid fun v hv => HNX.out v6 v w6 hv (by have h := ho6; rw [List.append_assoc] at h; exact h) (HB5.out.trans (((alloc_below w5 _).mono HB5.out.size).trans (hg6.toBelow (Nat.le_trans HB5.out.size (alloc_below _ _).size) HO5.out.ge)))
                   clear ho6 hg6)
                | (at_builtin
                   refine wpList_appB (xs := xs) (ys := [1]) (B := w.heap.size) rfl _ _ 26 rfl Try.underlying26 hi hz0 hz1 hz2 rfl (HO2.out.below (alloc_below w2 _)) rfl rfl (rd_one w2 _ 1 rfl) HM1.out (Nat.le_trans HBW.out.size (alloc_below w2 _).size) ?_
                   intro v5 w5 ho5 hg5
                   have HO5 := Lib.hid ho5
                   have HX5 := Lib.hid (box_far HO.out HX2.out hg5)
                   have HB5 := Lib.hid (HBW.out.trans (((alloc_below w2 _).mono HBW.out.size).trans (hg5.toBelow (Nat.le_trans HBW.out.size (alloc_below w2 _).size) HO.out.ge)))
                   have HL5 : Hid ((xs ++ [1]).length ≤ 9001) := Lib.hid (by rw [List.length_append]; simp; exact HL.out)
                   obtain ⟨x0, x1, x2⟩ := box3 HX5.out.1
                   clear ho5 hg5)
                | fail)
              go_roundw
              case rel => first | exact HY.out _ (by go_num) | ((repeat apply Exists.intro); exact ⟨HY.out _ (by go_num), rfl⟩)
              case measure => simp [intOf]; omega
            · go_wp2_with (first
                | (at_builtin
                   refine wpList_appB (xs := xs ++ [1]) (ys := [1]) (B := w.heap.size) rfl _ _ 26 rfl Try.underlying26 hi hz0 hz1 hz2 rfl (HO5.out.below (alloc_below _ _)) rfl rfl (rd_one _ _ 1 rfl) (by have := HL5.out; simp at this ⊢; omega) (Nat.le_trans HB5.out.size (alloc_below _ _).size) ?_
                   intro v6 w6 ho6 hg6
                   have HY : Hid (∀ v, v = .int .i64 ((k + 1 : Nat) : Int) → RFE w l v6 v w6) := Lib.hid fun v hv => HNX.out v6 v w6 hv (by have h := ho6; rw [List.append_assoc] at h; exact h) (HB5.out.trans (((alloc_below w5 _).mono HB5.out.size).trans (hg6.toBelow (Nat.le_trans HB5.out.size (alloc_below _ _).size) HO5.out.ge)))
                   clear ho6 hg6)
                | (at_builtin
                   refine wpList_appB (xs := xs) (ys := [1]) (B := w.heap.size) rfl _ _ 26 rfl Try.underlying26 hi hz0 hz1 hz2 rfl (HO2.out.below (alloc_below w2 _)) rfl rfl (rd_one w2 _ 1 rfl) HM1.out (Nat.le_trans HBW.out.size (alloc_below w2 _).size) ?_
                   intro v5 w5 ho5 hg5
                   have HO5 := Lib.hid ho5
                   have HX5 := Lib.hid (box_far HO.out HX2.out hg5)
                   have HB5 := Lib.hid (HBW.out.trans (((alloc_below w2 _).mono HBW.out.size).trans (hg5.toBelow (Nat.le_trans HBW.out.size (alloc_below w2 _).size) HO.out.ge)))
                   have HL5 : Hid ((xs ++ [1]).length ≤ 9001) := Lib.hid (by rw [List.length_append]; simp; exact HL.out)
                   obtain ⟨x0, x1, x2⟩ := box3 HX5.out.1
                   clear ho5 hg5)
                | fail)
              go_roundw
              case rel => first | exact HY.out _ (by go_num) | ((repeat apply Exists.intro); exact ⟨HY.out _ (by go_num), rfl⟩)
              case measure => simp [intOf]; omega
          · have HN := Lib.hid hn
            clear hn
            rcases hk with rfl | rfl
            · go_wp2_with (first
                | (at_builtin
                   refine wpList_appB (xs := xs ++ [2]) (ys := vL (zig xn)) (B := w.heap.size) rfl _ _ 26 rfl Try.underlying26 hi hz0 hz1 hz2 rfl HO5.out rfl rfl HO6.out (by have h1 := HL5.out; have h2 := vL_10 (zig_lt HN.out.1 HN.out.2); omega) HB6.out.size ?_
                   intro v7 w7 ho7 hg7
                   have HY : Hid (∀ v, v = .int .i64 ((k + 1 : Nat) : Int) → RFE w l v7 v w7) := Lib.hid fun v hv => HNX.out v7 v w7 hv (by have h := ho7; rw [List.append_assoc] at h; exact h) (HB6.out.trans (hg7.toBelow HB6.out.size HO5.out.ge))
                   clear ho7 hg7)
                | (go_at_call 29; refine (refShort_any xn HN.out _).mono ?_; rintro e w6 ⟨v6, rfl, ho6, hb6⟩
                   obtain ⟨A6, cap6, hv6, hcap6⟩ := ho6.2
                   subst hv6
                   have HO6 := Lib.hid ho6.rd
                   have HO5 := Lib.hid (HO5.out.below hb6)
                   have HB6 := Lib.hid (HB5.out.trans (hb6.mono HB5.out.size))
                   clear ho6 hb6 hcap6)
                | (at_builtin
                   refine wpList_appB (xs := xs) (ys := [2]) (B := w.heap.size) rfl _ _ 26 rfl Try.underlying26 hi hz0 hz1 hz2 rfl (HO2.out.below (alloc_below w2 _)) rfl rfl (rd_one w2 _ 2 rfl) HM1.out (Nat.le_trans HBW.out.size (alloc_below w2 _).size) ?_
                   intro v5 w5 ho5 hg5
                   have HO5 := Lib.hid ho5
                   have HX5 := Lib.hid (box_far HO.out HX2.out hg5)
                   have HB5 := Lib.hid (HBW.out.trans (((alloc_below w2 _).mono HBW.out.size).trans (hg5.toBelow (Nat.le_trans HBW.out.size (alloc_below w2 _).size) HO.out.ge)))
                   have HL5 : Hid ((xs ++ [2]).length ≤ 9001) := Lib.hid (by rw [List.length_append]; simp; exact HL.out)
                   obtain ⟨x0, x1, x2⟩ := box3 HX5.out.1
                   clear ho5 hg5)
                | fail)
              go_roundw
              case rel => first | exact HY.out _ (by go_num) | ((repeat apply Exists.intro); exact ⟨HY.out _ (by go_num), rfl⟩)
              case measure => simp [intOf]; omega
            · go_wp2_with (first
                | (at_builtin
                   refine wpList_appB (xs := xs ++ [3]) (ys := vL (zig xn)) (B := w.heap.size) rfl _ _ 26 rfl Try.underlying26 hi hz0 hz1 hz2 rfl HO5.out rfl rfl HO6.out (by have h1 := HL5.out; have h2 := vL_10 (zig_lt HN.out.1 HN.out.2); omega) HB6.out.size ?_
                   intro v7 w7 ho7 hg7
                   have HY : Hid (∀ v, v = .int .i64 ((k + 1 : Nat) : Int) → RFE w l v7 v w7) := Lib.hid fun v hv => HNX.out v7 v w7 hv (by have h := ho7; rw [List.append_assoc] at h; exact h) (HB6.out.trans (hg7.toBelow HB6.out.size HO5.out.ge))
                   clear ho7 hg7)
                | (go_at_call 29; refine (refShort_any xn HN.out _).mono ?_; rintro e w6 ⟨v6, rfl, ho6, hb6⟩
                   obtain ⟨A6, cap6, hv6, hcap6⟩ := ho6.2
                   subst hv6
                   have HO6 := Lib.hid ho6.rd
                   have HO5 := Lib.hid (HO5.out.below hb6)
                   have HB6 := Lib.hid (HB5.out.trans (hb6.mono HB5.out.size))
                   clear ho6 hb6 hcap6)
                | (at_builtin
                   refine wpList_appB (xs := xs) (ys := [3]) (B := w.heap.size) rfl _ _ 26 rfl Try.underlying26 hi hz0 hz1 hz2 rfl (HO2.out.below (alloc_below w2 _)) rfl rfl (rd_one w2 _ 3 rfl) HM1.out (Nat.le_trans HBW.out.size (alloc_below w2 _).size) ?_
                   intro v5 w5 ho5 hg5
                   have HO5 := Lib.hid ho5
                   have HX5 := Lib.hid (box_far HO.out HX2.out hg5)
                   have HB5 := Lib.hid (HBW.out.trans (((alloc_below w2 _).mono HBW.out.size).trans (hg5.toBelow (Nat.le_trans HBW.out.size (alloc_below w2 _).size) HO.out.ge)))
                   have HL5 : Hid ((xs ++ [3]).length ≤ 9001) := Lib.hid (by rw [List.length_append]; simp; exact HL.out)
                   obtain ⟨x0, x1, x2⟩ := box3 HX5.out.1
                   clear ho5 hg5)
                | fail)
              go_roundw
              case rel => first | exact HY.out _ (by go_num) | ((repeat apply Exists.intro); exact ⟨HY.out _ (by go_num), rfl⟩)
              case measure => simp [intOf]; omega
          · have HS := Lib.hid hs
            have HN : Hid (i64ok (xt.size : Int)) := Lib.hid (by unfold i64ok; omega)
            clear hs
            rcases hk with rfl | rfl
            · have HE : Hid (xs ++ [4] ++ vL (zig (xt.size : Int)) ++ xt.data.toList = xs ++ rowV ⟨4, 0, xt⟩) := Lib.hid (by simp [rowV, bodyR])
              go_wp2_with (first
                | (at_builtin
                   refine wpList_appB (xs := xs ++ [4] ++ vL (zig (xt.size : Int))) (ys := xt.data.toList) (C := w7.heap.size + 1) (B := w.heap.size) rfl _ _ 26 rfl Try.underlying26 hi hz0 hz1 hz2 rfl (HO7.out.below HCV.out.2) rfl (by simp) (fun _ => ⟨_, rfl, by show w7.heap.size < w7.heap.size + 1; omega, fun j c hj => by rw [add_plain]; exact HCV.out.1 j c hj⟩) (by have h1 := HL5.out; have h2 := vL_10 (zig_lt HN.out.1 HN.out.2); have h3 := HS.out; simp at h1 ⊢; omega) (Nat.le_trans HB7.out.size HCV.out.2.size) ?_
                   intro v8 w8 ho8 hg8
                   have HY : Hid (∀ v, v = .int .i64 ((k + 1 : Nat) : Int) → RFE w l v8 v w8) := Lib.hid fun v hv => HNX.out v8 v w8 hv (by have h := ho8; rw [HE.out] at h; exact h) (HB7.out.trans ((HCV.out.2.mono HB7.out.size).trans (hg8.toBelow (Nat.le_trans HB7.out.size HCV.out.2.size) HO7.out.ge)))
                   clear ho8 hg8 hcv)
                | (at_builtin
                   refine wpList_appB (xs := xs ++ [4]) (ys := vL (zig (xt.size : Int))) (B := w.heap.size) rfl _ _ 26 rfl Try.underlying26 hi hz0 hz1 hz2 rfl HO5.out rfl rfl HO6.out (by have h1 := HL5.out; have h2 := vL_10 (zig_lt HN.out.1 HN.out.2); omega) HB6.out.size ?_
                   intro v7 w7 ho7 hg7
                   have HO7 := Lib.hid ho7
                   have HX7 := Lib.hid (box_far' HX5.out.2 HX6.out hg7)
                   have HB7 := Lib.hid (HB6.out.trans (hg7.toBelow HB6.out.size HO5.out.ge))
                   obtain ⟨x0, x1, x2⟩ := box3 HX7.out
                   obtain ⟨W8, cap8, hcv, hcells, hb8, hcap8, _⟩ := conv_bytes xt w7
                   have HCV := Lib.hid (And.intro hcells hb8)
                   clear ho7 hg7 hcells hb8 hcap8)
                | (go_at_call 29; refine (refShort_any (xt.size : Int) HN.out _).mono ?_; rintro e w6 ⟨v6, rfl, ho6, hb6⟩
                   obtain ⟨A6, cap6, hv6, hcap6⟩ := ho6.2
                   subst hv6
                   have HO6 := Lib.hid ho6.rd
                   have HO5 := Lib.hid (HO5.out.below hb6)
                   have HB6 := Lib.hid (HB5.out.trans (hb6.mono HB5.out.size))
                   have HX6 := Lib.hid ((hb6.block _ (Array.getElem?_eq_some_iff.1 HX5.out.1).1).trans HX5.out.1)
                   obtain ⟨x0, x1, x2⟩ := box3 HX6.out
                   clear ho6 hb6 hcap6)
                | (at_builtin
                   refine wpList_appB (xs := xs) (ys := [4]) (B := w.heap.size) rfl _ _ 26 rfl Try.underlying26 hi hz0 hz1 hz2 rfl (HO2.out.below (alloc_below w2 _)) rfl rfl (rd_one w2 _ 4 rfl) HM1.out (Nat.le_trans HBW.out.size (alloc_below w2 _).size) ?_
                   intro v5 w5 ho5 hg5
                   have HO5 := Lib.hid ho5
                   have HX5 := Lib.hid (box_far HO.out HX2.out hg5)
                   have HB5 := Lib.hid (HBW.out.trans (((alloc_below w2 _).mono HBW.out.size).trans (hg5.toBelow (Nat.le_trans HBW.out.size (alloc_below w2 _).size) HO.out.ge)))
                   have HL5 : Hid ((xs ++ [4]).length ≤ 9001) := Lib.hid (by rw [List.length_append]; simp; exact HL.out)
                   obtain ⟨x0, x1, x2⟩ := box3 HX5.out.1
                   clear ho5 hg5)
                | fail)
              go_roundw
              case rel => first | exact HY.out _ (by go_num) | ((repeat apply Exists.intro); exact ⟨HY.out _ (by go_num), rfl⟩)
              case measure => simp [intOf]; omega
            · have HE : Hid (xs ++ [5] ++ vL (zig (xt.size : Int)) ++ xt.data.toList = xs ++ rowV ⟨5, 0, xt⟩) := Lib.hid (by simp [rowV, bodyR])
              go_wp2_with (first
                | (at_builtin
                   refine wpList_appB (xs := xs ++ [5] ++ vL (zig (xt.size : Int))) (ys := xt.data.toList) (C := w7.heap.size + 1) (B := w.heap.size) rfl _ _ 26 rfl Try.underlying26 hi hz0 hz1 hz2 rfl (HO7.out.below HCV.out.2) rfl (by simp) (fun _ => ⟨_, rfl, by show w7.heap.size < w7.heap.size + 1; omega, fun j c hj => by rw [add_plain]; exact HCV.out.1 j c hj⟩) (by have h1 := HL5.out; have h2 := vL_10 (zig_lt HN.out.1 HN.out.2); have h3 := HS.out; simp at h1 ⊢; omega) (Nat.le_trans HB7.out.size HCV.out.2.size) ?_
                   intro v8 w8 ho8 hg8
                   have HY : Hid (∀ v, v = .int .i64 ((k + 1 : Nat) : Int) → RFE w l v8 v w8) := Lib.hid fun v hv => HNX.out v8 v w8 hv (by have h := ho8; rw [HE.out] at h; exact h) (HB7.out.trans ((HCV.out.2.mono HB7.out.size).trans (hg8.toBelow (Nat.le_trans HB7.out.size HCV.out.2.size) HO7.out.ge)))
                   clear ho8 hg8 hcv)
                | (at_builtin
                   refine wpList_appB (xs := xs ++ [5]) (ys := vL (zig (xt.size : Int))) (B := w.heap.size) rfl _ _ 26 rfl Try.underlying26 hi hz0 hz1 hz2 rfl HO5.out rfl rfl HO6.out (by have h1 := HL5.out; have h2 := vL_10 (zig_lt HN.out.1 HN.out.2); omega) HB6.out.size ?_
                   intro v7 w7 ho7 hg7
                   have HO7 := Lib.hid ho7
                   have HX7 := Lib.hid (box_far' HX5.out.2 HX6.out hg7)
                   have HB7 := Lib.hid (HB6.out.trans (hg7.toBelow HB6.out.size HO5.out.ge))
                   obtain ⟨x0, x1, x2⟩ := box3 HX7.out
                   obtain ⟨W8, cap8, hcv, hcells, hb8, hcap8, _⟩ := conv_bytes xt w7
                   have HCV := Lib.hid (And.intro hcells hb8)
                   clear ho7 hg7 hcells hb8 hcap8)
                | (go_at_call 29; refine (refShort_any (xt.size : Int) HN.out _).mono ?_; rintro e w6 ⟨v6, rfl, ho6, hb6⟩
                   obtain ⟨A6, cap6, hv6, hcap6⟩ := ho6.2
                   subst hv6
                   have HO6 := Lib.hid ho6.rd
                   have HO5 := Lib.hid (HO5.out.below hb6)
                   have HB6 := Lib.hid (HB5.out.trans (hb6.mono HB5.out.size))
                   have HX6 := Lib.hid ((hb6.block _ (Array.getElem?_eq_some_iff.1 HX5.out.1).1).trans HX5.out.1)
                   obtain ⟨x0, x1, x2⟩ := box3 HX6.out
                   clear ho6 hb6 hcap6)
                | (at_builtin
                   refine wpList_appB (xs := xs) (ys := [5]) (B := w.heap.size) rfl _ _ 26 rfl Try.underlying26 hi hz0 hz1 hz2 rfl (HO2.out.below (alloc_below w2 _)) rfl rfl (rd_one w2 _ 5 rfl) HM1.out (Nat.le_trans HBW.out.size (alloc_below w2 _).size) ?_
                   intro v5 w5 ho5 hg5
                   have HO5 := Lib.hid ho5
                   have HX5 := Lib.hid (box_far HO.out HX2.out hg5)
                   have HB5 := Lib.hid (HBW.out.trans (((alloc_below w2 _).mono HBW.out.size).trans (hg5.toBelow (Nat.le_trans HBW.out.size (alloc_below w2 _).size) HO.out.ge)))
                   have HL5 : Hid ((xs ++ [5]).length ≤ 9001) := Lib.hid (by rw [List.length_append]; simp; exact HL.out)
                   obtain ⟨x0, x1, x2⟩ := box3 HX5.out.1
                   clear ho5 hg5)
                | fail)
              go_roundw
              case rel => first | exact HY.out _ (by go_num) | ((repeat apply Exists.intro); exact ⟨HY.out _ (by go_num), rfl⟩)
              case measure => simp [intOf]; omega
      · have hkl : k = l.length := by omega
        subst hkl
        have HTL : Hid (l.take l.length = l) := Lib.hid (List.take_of_length_le (Nat.le_refl _))
        have HY : Hid (∀ v, v = .slice A2 (UInt8.ofNat l.length :: rowL (l.take l.length)).length cap2 → EncPR w l (.returned (.tuple #[v, .int .i64 0])) wr) := Lib.hid fun v hv => ⟨HB.out, .inl ⟨⟨h16, by have h := HT.out; rw [HTL.out] at h; exact h⟩, v, rfl, by have h := HO.out; rw [← hv] at h; rw [HTL.out] at h; exact h⟩⟩
        have hnlt : ¬ ((l.length : Int) < (l.length : Int)) := by omega
        clear hk hlt HO HT
        go_wp2_with fail
        go_ret2
        exact HY.out _ (by first | rfl | simp)
  · have h16i : (16 : Int) < (l.length : Int) := by omega
    have HY : Hid (EncPR w l (.returned (.tuple #[.slice none 0 0, .int .i64 51])) w) := Lib.hid ⟨Below.refl _ _, .inr ⟨fun h => h16 h.1, rfl⟩⟩
    clear h16
    go_enter Try.func18, Try.ntmps18
    go_wp2_with fail
    go_ret2
    exact HY.out
end Go.Proofs.Ytbbhddpfclgohaa
