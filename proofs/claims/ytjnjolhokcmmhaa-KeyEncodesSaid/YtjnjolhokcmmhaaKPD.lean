/- The document's bytes of a text of a key, and of any right value. -/
import Derived.Test.YtjnjolhokcmmhaaKPB
import Derived.Test.YtjnjolhokcmmhaaKF
import Derived.Test.YtjnjolhokcmmhaaNX
namespace Go.Proofs.Ytjnjolhokcmmhaa
open Go.RowKit

/-- at the head of the text's loop -/
def OTL (w : World) (k n : Int) (c : UInt8) (s : ByteArray) (v3 v6 : Value) (wr : World) : Prop := ∃ (i : Nat) (y : Value), y = v3 ∧ i ≤ s.size ∧ v6 = .int .i64 (i : Int) ∧ OwnB wr w.heap.size y (c :: stuffL (s.data.toList.take i)) ∧ Below w.heap.size w wr ∧ wr.heap[w.heap.size]? = some (.cells #[.int .i64 k, .int .i64 n, .string s] 68 (0, 0)) ∧ y.ownBlock ≠ some w.heap.size
theorem otl_start (w : World) (k n : Int) (c : UInt8) (s : ByteArray) (x : Int) (hx : x = (c.toNat : Int)) : OTL w k n c s (.slice (some ⟨w.heap.size + 1, 0, none⟩) 1 1) (.int .i64 0) ((w.alloc (.cells #[.int .i64 k, .int .i64 n, .string s] 68)).alloc (.cells #[.int .u8 x] 5)) :=
  ⟨0, _, rfl, Nat.zero_le _, rfl, own_one2 (Nat.le_refl _) c x hx, alloc2_below _ _ _, by rw [heap_at, if_neg (by simp)]; exact heap_alloc_new w _, by simp [Value.ownBlock]⟩
theorem OTL.next {w wr : World} {k n : Int} {c d : UInt8} {s : ByteArray} {i : Nat} {y : Value} (hd : s.data.toList[i]? = some d) (hi : i < s.size) (ho : OwnB wr w.heap.size y (c :: stuffL (s.data.toList.take i))) (hb : Below w.heap.size w wr)
    (hx : wr.heap[w.heap.size]? = some (.cells #[.int .i64 k, .int .i64 n, .string s] 68 (0, 0))) (hne : y.ownBlock ≠ some w.heap.size) {o : Obj} {v5 v6 : Value} {w5 : World} (ho5 : OwnB w5 w.heap.size v5 ((c :: stuffL (s.data.toList.take i)) ++ stuffL [d])) (hg : Grew (wr.alloc o) y w5 v5)
    (h6 : v6 = .int .i64 ((i + 1 : Nat) : Int)) : OTL w k n c s v5 v6 w5 := by
  have hlt : w.heap.size < wr.heap.size := (Array.getElem?_eq_some_iff.1 hx).1
  refine ⟨i + 1, _, rfl, hi, h6, ?_, (hb.trans ((alloc_below wr o).mono hb.size)).trans (hg.toBelow (Nat.le_trans hb.size (alloc_below wr o).size) ho.ge), ?_, ?_⟩
  · rw [List.take_add_one, hd, Option.toList_some, stuffL_app]
    exact ho5
  · refine (hg.by_.block w.heap.size (by simp; omega) (fun e => hne e.symm)).trans ?_
    rw [Below.heap_alloc _ _ _ hlt]
    exact hx
  · intro e
    rcases hg.at_ with h1 | h1
    · exact hne (h1.symm.trans e)
    · have := h1 _ e
      simp at this
      omega
theorem box_kept2 {w wr w5 : World} {y v5 : Value} {o q : Obj} (hne : y.ownBlock ≠ some w.heap.size) (hx : wr.heap[w.heap.size]? = some q) (hg : Grew (wr.alloc o) y w5 v5) : w5.heap[w.heap.size]? = some q := by
  have hlt : w.heap.size < wr.heap.size := (Array.getElem?_eq_some_iff.1 hx).1
  refine (hg.by_.block w.heap.size (by simp; omega) (fun e => hne e.symm)).trans ?_
  rw [Below.heap_alloc _ _ _ hlt]
  exact hx
set_option maxRecDepth 100000 in
set_option maxHeartbeats 4000000 in
theorem one_4 (s : ByteArray) (hs : s.size ≤ 200) (w : World) : Calls Try.prog 37 #[.agg #[.int .i64 4, .int .i64 0, .string s]] w (OneT w (4 :: (stuffL s.data.toList ++ [0, 1]))) := by
  obtain ⟨i0, hi, hz0, hz1, hz2⟩ := info_parts info8
  have hll : s.data.toList.length = s.size := by simp
  have HLL := Lib.hid hll
  have HS200 := Lib.hid hs
  have hsi : (s.size : Int) ≤ 200 := by omega
  have HS := Lib.hid (otl_start w 4 0 4 s 4 rfl)
  clear hs hll
  go_enter Try.func37, Try.ntmps37
  go_wp2_with fail
  go_loopw [3, 6] (fun v3 v6 wr => OTL w 4 0 4 s v3 v6 wr) (fun _ v6 _ => s.size - (intOf v6).toNat)
  case atStart => exact HS.out
  case round =>
    obtain ⟨i, y, rfl, hi9, rfl, ho, hb, hx, hne⟩ := hrel
    obtain ⟨x0, x1, x2⟩ := box3 hx
    have HO := Lib.hid ho
    have HB := Lib.hid hb
    have HX := Lib.hid hx
    have HNE := Lib.hid hne
    clear ho hb hx hne
    have hst := stuffL_len (s.data.toList.take i)
    have htl : (s.data.toList.take i).length ≤ i := by rw [List.length_take]; omega
    have HM1 : Hid ((4 :: stuffL (s.data.toList.take i)).length + 1 + 1 ≤ 1000000) := Lib.hid (by rw [List.length_cons]; have := HS200.out; omega)
    clear hst htl
    by_cases hlt : i < s.size
    · have hd : s.data.toList[i]? = some (s[i]'hlt) := by
        rw [List.getElem?_eq_getElem (by rw [HLL.out]; exact hlt)]
        rfl
      obtain ⟨d, HD⟩ : ∃ d, Hid (s[i]'hlt = d) := ⟨_, Lib.hid rfl⟩
      rw [HD.out] at hd
      have hki : (i : Int) < (s.size : Int) := by omega
      have HN : Hid (∀ o v5 w5, OwnB w5 w.heap.size v5 ((4 :: stuffL (s.data.toList.take i)) ++ stuffL [d]) → Grew (wr.alloc o) y w5 v5 → ∀ v6, v6 = .int .i64 ((i + 1 : Nat) : Int) → OTL w 4 0 4 s v5 v6 w5) :=
        Lib.hid fun o v5 w5 ho5 hg5 v6 h6 => OTL.next hd hlt HO.out HB.out HX.out HNE.out ho5 hg5 h6
      have HBZ : Hid (∀ o, w.heap.size ≤ (wr.alloc o).heap.size) := Lib.hid fun o => by have := HB.out.size; simp; omega
      have HDD : Hid (((s[i]'hlt).toNat : Int) = (d.toNat : Int)) := Lib.hid (by rw [HD.out])
      clear hi9
      by_cases h0 : d = 0
      · subst h0
        have hz : (((s[i]'hlt).toNat : Int) == 0) = true := by rw [HD.out]; rfl
        clear hd
        go_wp2_with (at_builtin
                     first
                       | (refine wpList_appB rfl _ _ 23 rfl (B := w.heap.size) Try.underlying23 hi hz0 hz1 hz2 rfl (HO.out.below (alloc_below _ _)) rfl rfl (rd_one _ _ 0 HDD.out) (Nat.le_of_succ_le HM1.out) (HBZ.out _) ?_
                          intro v5 w5 ho5 hg5
                          have HO5 := Lib.hid ho5
                          have HG5 := Lib.hid hg5
                          have HX5 := Lib.hid (box_kept2 HNE.out HX.out hg5)
                          obtain ⟨x0, x1, x2⟩ := box3 HX5.out
                          clear ho5 hg5)
                       | (refine wpList_appB rfl _ _ 23 rfl (B := w.heap.size) Try.underlying23 hi hz0 hz1 hz2 rfl (HO5.out.below (alloc_below _ _)) rfl rfl (rd_one _ _ 255 rfl) (by rw [List.length_append]; exact HM1.out) (by have h1 := HBZ.out default; have h2 := HG5.out.by_.size; simp at h1 h2 ⊢; omega) ?_
                          intro v6 w6 ho6 hg6
                          have HY := Lib.hid (HN.out _ _ _ (by simpa [stuffL] using ho6) (HG5.out.trans ((Grew.below (alloc_below _ _)).trans hg6)))
                          clear ho6 hg6))
        go_roundw
        case rel => first | exact HY.out _ (by go_num) | ((repeat apply Exists.intro); exact ⟨HY.out _ (by go_num), rfl⟩)
        case measure => simp [intOf]; omega
      · have hz : (((s[i]'hlt).toNat : Int) == 0) = false := by
          have := nz_pos h0
          rw [HD.out]
          simp; omega
        have HST : Hid (stuffL [d] = [d]) := Lib.hid (by simp [stuffL, h0])
        clear h0 hd
        go_wp2_with (at_builtin
                     refine wpList_appB rfl _ _ 23 rfl (B := w.heap.size) Try.underlying23 hi hz0 hz1 hz2 rfl (HO.out.below (alloc_below _ _)) rfl rfl (rd_one _ _ d HDD.out) (Nat.le_of_succ_le HM1.out) (HBZ.out _) ?_
                     intro v5 w5 ho5 hg5
                     have HX5 := Lib.hid (box_kept2 HNE.out HX.out hg5)
                     obtain ⟨x0, x1, x2⟩ := box3 HX5.out
                     have HY := Lib.hid (HN.out _ _ _ (by rw [HST.out]; exact ho5) hg5)
                     clear ho5 hg5)
        go_roundw
        case rel => first | exact HY.out _ (by go_num) | ((repeat apply Exists.intro); exact ⟨HY.out _ (by go_num), rfl⟩)
        case measure => simp [intOf]; omega
    · have hkm : i = s.size := by omega
      subst hkm
      have HT : Hid (s.data.toList.take s.size = s.data.toList) := Lib.hid (by rw [List.take_of_length_le (by rw [HLL.out]; exact Nat.le_refl _)])
      have HO1 : Hid (OwnB wr w.heap.size y (4 :: stuffL s.data.toList)) := Lib.hid (by have h := HO.out; rw [HT.out] at h; exact h)
      have HM2 : Hid ((4 :: stuffL s.data.toList).length + 2 ≤ 1000000) := Lib.hid (by have h := HM1.out; rw [HT.out] at h; exact h)
      have HBZ : Hid (∀ o, w.heap.size ≤ (wr.alloc o).heap.size) := Lib.hid fun o => by have := HB.out.size; simp; omega
      have hnlt : ¬ ((s.size : Int) < (s.size : Int)) := by omega
      clear hi9 hlt HO
      go_wp2_with (at_builtin
                   refine wpList_appB rfl _ _ 23 rfl (B := w.heap.size) Try.underlying23 hi hz0 hz1 hz2 rfl (HO1.out.below (alloc_below _ _)) rfl rfl (rd_two _ _ _ 0 1 rfl rfl) HM2.out (HBZ.out _) ?_
                   intro v5 w5 ho5 hg5
                   have HY : Hid (OneT w (4 :: (stuffL s.data.toList ++ [0, 1])) (.returned v5) w5) := Lib.hid ⟨v5, rfl, ho5, (HB.out.trans ((alloc_below wr _).mono HB.out.size)).trans (hg5.toBelow (HBZ.out _) HO1.out.ge)⟩
                   clear ho5 hg5)
      go_ret
      exact HY.out
set_option maxRecDepth 100000 in
set_option maxHeartbeats 4000000 in
theorem one_5 (s : ByteArray) (hs : s.size ≤ 200) (w : World) : Calls Try.prog 37 #[.agg #[.int .i64 5, .int .i64 0, .string s]] w (OneT w (5 :: (stuffL s.data.toList ++ [0, 1]))) := by
  obtain ⟨i0, hi, hz0, hz1, hz2⟩ := info_parts info8
  have hll : s.data.toList.length = s.size := by simp
  have HLL := Lib.hid hll
  have HS200 := Lib.hid hs
  have hsi : (s.size : Int) ≤ 200 := by omega
  have HS := Lib.hid (otl_start w 5 0 5 s 5 rfl)
  clear hs hll
  go_enter Try.func37, Try.ntmps37
  go_wp2_with fail
  go_loopw [3, 6] (fun v3 v6 wr => OTL w 5 0 5 s v3 v6 wr) (fun _ v6 _ => s.size - (intOf v6).toNat)
  case atStart => exact HS.out
  case round =>
    obtain ⟨i, y, rfl, hi9, rfl, ho, hb, hx, hne⟩ := hrel
    obtain ⟨x0, x1, x2⟩ := box3 hx
    have HO := Lib.hid ho
    have HB := Lib.hid hb
    have HX := Lib.hid hx
    have HNE := Lib.hid hne
    clear ho hb hx hne
    have hst := stuffL_len (s.data.toList.take i)
    have htl : (s.data.toList.take i).length ≤ i := by rw [List.length_take]; omega
    have HM1 : Hid ((5 :: stuffL (s.data.toList.take i)).length + 1 + 1 ≤ 1000000) := Lib.hid (by rw [List.length_cons]; have := HS200.out; omega)
    clear hst htl
    by_cases hlt : i < s.size
    · have hd : s.data.toList[i]? = some (s[i]'hlt) := by
        rw [List.getElem?_eq_getElem (by rw [HLL.out]; exact hlt)]
        rfl
      obtain ⟨d, HD⟩ : ∃ d, Hid (s[i]'hlt = d) := ⟨_, Lib.hid rfl⟩
      rw [HD.out] at hd
      have hki : (i : Int) < (s.size : Int) := by omega
      have HN : Hid (∀ o v5 w5, OwnB w5 w.heap.size v5 ((5 :: stuffL (s.data.toList.take i)) ++ stuffL [d]) → Grew (wr.alloc o) y w5 v5 → ∀ v6, v6 = .int .i64 ((i + 1 : Nat) : Int) → OTL w 5 0 5 s v5 v6 w5) :=
        Lib.hid fun o v5 w5 ho5 hg5 v6 h6 => OTL.next hd hlt HO.out HB.out HX.out HNE.out ho5 hg5 h6
      have HBZ : Hid (∀ o, w.heap.size ≤ (wr.alloc o).heap.size) := Lib.hid fun o => by have := HB.out.size; simp; omega
      have HDD : Hid (((s[i]'hlt).toNat : Int) = (d.toNat : Int)) := Lib.hid (by rw [HD.out])
      clear hi9
      by_cases h0 : d = 0
      · subst h0
        have hz : (((s[i]'hlt).toNat : Int) == 0) = true := by rw [HD.out]; rfl
        clear hd
        go_wp2_with (at_builtin
                     first
                       | (refine wpList_appB rfl _ _ 23 rfl (B := w.heap.size) Try.underlying23 hi hz0 hz1 hz2 rfl (HO.out.below (alloc_below _ _)) rfl rfl (rd_one _ _ 0 HDD.out) (Nat.le_of_succ_le HM1.out) (HBZ.out _) ?_
                          intro v5 w5 ho5 hg5
                          have HO5 := Lib.hid ho5
                          have HG5 := Lib.hid hg5
                          have HX5 := Lib.hid (box_kept2 HNE.out HX.out hg5)
                          obtain ⟨x0, x1, x2⟩ := box3 HX5.out
                          clear ho5 hg5)
                       | (refine wpList_appB rfl _ _ 23 rfl (B := w.heap.size) Try.underlying23 hi hz0 hz1 hz2 rfl (HO5.out.below (alloc_below _ _)) rfl rfl (rd_one _ _ 255 rfl) (by rw [List.length_append]; exact HM1.out) (by have h1 := HBZ.out default; have h2 := HG5.out.by_.size; simp at h1 h2 ⊢; omega) ?_
                          intro v6 w6 ho6 hg6
                          have HY := Lib.hid (HN.out _ _ _ (by simpa [stuffL] using ho6) (HG5.out.trans ((Grew.below (alloc_below _ _)).trans hg6)))
                          clear ho6 hg6))
        go_roundw
        case rel => first | exact HY.out _ (by go_num) | ((repeat apply Exists.intro); exact ⟨HY.out _ (by go_num), rfl⟩)
        case measure => simp [intOf]; omega
      · have hz : (((s[i]'hlt).toNat : Int) == 0) = false := by
          have := nz_pos h0
          rw [HD.out]
          simp; omega
        have HST : Hid (stuffL [d] = [d]) := Lib.hid (by simp [stuffL, h0])
        clear h0 hd
        go_wp2_with (at_builtin
                     refine wpList_appB rfl _ _ 23 rfl (B := w.heap.size) Try.underlying23 hi hz0 hz1 hz2 rfl (HO.out.below (alloc_below _ _)) rfl rfl (rd_one _ _ d HDD.out) (Nat.le_of_succ_le HM1.out) (HBZ.out _) ?_
                     intro v5 w5 ho5 hg5
                     have HX5 := Lib.hid (box_kept2 HNE.out HX.out hg5)
                     obtain ⟨x0, x1, x2⟩ := box3 HX5.out
                     have HY := Lib.hid (HN.out _ _ _ (by rw [HST.out]; exact ho5) hg5)
                     clear ho5 hg5)
        go_roundw
        case rel => first | exact HY.out _ (by go_num) | ((repeat apply Exists.intro); exact ⟨HY.out _ (by go_num), rfl⟩)
        case measure => simp [intOf]; omega
    · have hkm : i = s.size := by omega
      subst hkm
      have HT : Hid (s.data.toList.take s.size = s.data.toList) := Lib.hid (by rw [List.take_of_length_le (by rw [HLL.out]; exact Nat.le_refl _)])
      have HO1 : Hid (OwnB wr w.heap.size y (5 :: stuffL s.data.toList)) := Lib.hid (by have h := HO.out; rw [HT.out] at h; exact h)
      have HM2 : Hid ((5 :: stuffL s.data.toList).length + 2 ≤ 1000000) := Lib.hid (by have h := HM1.out; rw [HT.out] at h; exact h)
      have HBZ : Hid (∀ o, w.heap.size ≤ (wr.alloc o).heap.size) := Lib.hid fun o => by have := HB.out.size; simp; omega
      have hnlt : ¬ ((s.size : Int) < (s.size : Int)) := by omega
      clear hi9 hlt HO
      go_wp2_with (at_builtin
                   refine wpList_appB rfl _ _ 23 rfl (B := w.heap.size) Try.underlying23 hi hz0 hz1 hz2 rfl (HO1.out.below (alloc_below _ _)) rfl rfl (rd_two _ _ _ 0 1 rfl rfl) HM2.out (HBZ.out _) ?_
                   intro v5 w5 ho5 hg5
                   have HY : Hid (OneT w (5 :: (stuffL s.data.toList ++ [0, 1])) (.returned v5) w5) := Lib.hid ⟨v5, rfl, ho5, (HB.out.trans ((alloc_below wr _).mono HB.out.size)).trans (hg5.toBelow (HBZ.out _) HO1.out.ge)⟩
                   clear ho5 hg5)
      go_ret
      exact HY.out
theorem one_any (x : Val) (hR : x.R) (w : World) : Calls Try.prog 37 #[.agg #[.int .i64 x.k, .int .i64 x.n, .string x.s]] w (OneT w (enc1 x)) := by
  have hc := hR.cases
  obtain ⟨k, n, s⟩ := x
  simp only at hc ⊢
  rcases hc with ⟨rfl, rfl, rfl⟩ | ⟨rfl, hn, rfl⟩ | ⟨hk, rfl, hn⟩ | ⟨hk, rfl, hs⟩
  · exact one_0 0 _ w
  · rcases hn with rfl | rfl
    · exact one_1 0 (by omega) _ w
    · exact one_1 1 (by omega) _ w
  · rcases hk with rfl | rfl
    · exact one_2 n hn _ w
    · exact one_3 n hn _ w
  · rcases hk with rfl | rfl
    · exact one_4 s hs w
    · exact one_5 s hs w
end Go.Proofs.Ytjnjolhokcmmhaa
