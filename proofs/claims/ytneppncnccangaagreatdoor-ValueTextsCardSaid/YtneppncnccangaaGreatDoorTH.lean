/- The document's guess of a number's text; guess whole; Read. -/
import Derived.Test.YtneppncnccangaaGreatDoorTG
namespace Go.Proofs.YtneppncnccangaaGreatDoor
open Go.RowKit

theorem ext_front (T : ByteArray) (K : Nat) : (T.extract 0 K).data.toList = T.data.toList.take K := by
  rw [ByteArray.data_extract, Array.toList_extract, List.extract_eq_take_drop]
  simp
theorem ext_back (T : ByteArray) (K : Nat) : (T.extract K T.size).data.toList = T.data.toList.drop K := by
  rw [ByteArray.data_extract, Array.toList_extract, List.extract_eq_take_drop]
  rw [List.take_of_length_le (by rw [List.length_drop, list_size]; exact Nat.le_refl _)]
theorem no_point {T : ByteArray} {K : Nat} (h : K < T.size) (hk : K = T.size - 5) (hc : ¬ T[K]'h = 46) : ¬ (5 < T.data.toList.length ∧ T.data.toList[T.data.toList.length - 5]? = some 46) := fun e => hc (by
  have h2 := e.2
  rw [show T.data.toList.length - 5 = K by rw [list_size]; omega, list_get h] at h2
  simpa using h2)
theorem no_room {T : ByteArray} (h : ¬ 5 < T.size) : ¬ (5 < T.data.toList.length ∧ T.data.toList[T.data.toList.length - 5]? = some 46) := fun e => h (by rw [← list_size]; exact e.1)
theorem gut_num {w W : World} {s T : ByteArray} {neg : Bool} (hW : Below w.heap.size w W) (HN : ∀ v : Val, v.ok → rightB v = true → textS v = s → NumSh neg T.data.toList v) {k n : Int} (hk : i64ok k) (hn : i64ok n) (h : ∀ v : Val, NumSh neg T.data.toList v → v = ⟨k, n, ⟨#[]⟩⟩) : GuT w s (.returned (.agg #[.int .i64 k, .int .i64 n, .string ⟨#[]⟩])) W :=
  ⟨hW, ⟨k, n, ⟨#[]⟩⟩, rfl, ⟨hk, hn⟩, Nat.zero_le _, fun v hv rv e => (h v (HN v hv rv e)).symm⟩
set_option maxRecDepth 100000 in
set_option maxHeartbeats 16000000 in
theorem gu_minus (s : ByteArray) (hs : s.size ≤ 1000) (h0 : 0 < s.size) (hx : s[0]'h0 = 45) (w : World) : Calls Tryz.prog 27 #[.string s] w (GuT w s) := by
  have hne : ∀ c : ByteArray, c.data.toList[0]? ≠ some 45 → s ≠ c := fun c hc e => hc (by rw [← e, list_get h0, hx])
  obtain ⟨n1, m1⟩ := ne_const (l := [110, 117, 108, 108]) (hne s_null (by decide)) rfl
  obtain ⟨n2, m2⟩ := ne_const (l := [102, 97, 108, 115, 101]) (hne s_false (by decide)) rfl
  obtain ⟨n3, m3⟩ := ne_const (l := [116, 114, 117, 101]) (hne s_true (by decide)) rfl
  have hx0 : (((s[0]'h0).toNat : Int) == 120) = false := by rw [hx]; rfl
  have hx1 : (((s[0]'h0).toNat : Int) == 39) = false := by rw [hx]; rfl
  have hxi : (((s[0]'h0).toNat : Int) == 45) = true := by rw [hx]; rfl
  have h0i : (0 : Int) < (s.size : Int) := by omega
  have h1i : (1 : Int) ≤ (s.size : Int) := by omega
  have hsi : (s.size : Int) ≤ 1000 := by omega
  obtain ⟨T, hT⟩ : ∃ T, Hid (T = s.extract 1 s.size) := ⟨_, Lib.hid rfl⟩
  have HTL : Hid (s.data.toList = 45 :: T.data.toList) := Lib.hid (by
    rw [hT.out, ext_back]
    have h1 := list_get (s := s) (i := 0) h0
    rw [hx] at h1
    rcases hL : s.data.toList with _ | ⟨c, r⟩
    · rw [hL] at h1; simp at h1
    · rw [hL] at h1; simp at h1; rw [h1]; rfl)
  have HTS : Hid (s.size - 1 = T.size) := Lib.hid (by have := congrArg List.length HTL.out; rw [list_size, List.length_cons, list_size] at this; omega)
  have HSZ : Hid (T.size ≤ 1000) := Lib.hid (by have := HTS.out; omega)
  have HNS : Hid (∀ v : Val, v.ok → rightB v = true → textS v = s → NumSh true T.data.toList v) := Lib.hid fun v hv rv e => by
    have h := shape_of hv rv e
    rw [HTL.out] at h
    exact shape_minus h
  have h2 : (2 : Int) < (s.size : Int) ∨ (¬ (2 : Int) < (s.size : Int) ∧ (1 : Int) < (s.size : Int)) ∨ (¬ (2 : Int) < (s.size : Int) ∧ ¬ (1 : Int) < (s.size : Int)) := by omega
  clear hs hx hne
  rcases h2 with h2 | ⟨h2, h3⟩ | ⟨h2, h3⟩
  all_goals
    go_enter Tryz.func27, Tryz.ntmps27
    go_upto_region 32 with fail
    rw [← hT.out, HTS.out]
    have hTi : (T.size : Int) ≤ 1000 := by have := HSZ.out; omega
    by_cases h5 : 5 < T.size
    · obtain ⟨K, hK⟩ : ∃ K : Nat, (T.size : Int) - 5 = (K : Int) := ⟨T.size - 5, by omega⟩
      rw [hK]
      have hKl : K < T.size := by omega
      have hK0 : (0 : Int) < (K : Int) := by omega
      have hKi : (K : Int) < (T.size : Int) := by omega
      by_cases hc : T[K]'hKl = 46
      · have hz : (((T[K]'hKl).toNat : Int) == 46) = true := by rw [hc]; rfl
        have hKe : K = T.data.toList.length - 5 := by rw [list_size]; omega
        have HK : Hid (5 < T.data.toList.length ∧ T.data.toList[T.data.toList.length - 5]? = some 46) := Lib.hid ⟨by rw [list_size]; exact h5, by rw [← hKe, list_get hKl, hc]⟩
        have HU : Hid ((T.extract 0 K ++ T.extract (K + 1) T.size).data.toList = T.data.toList.take (T.data.toList.length - 5) ++ T.data.toList.drop (T.data.toList.length - 5 + 1)) := Lib.hid (by rw [bapp, ext_front, ext_back, ← hKe])
        have hUs : (T.extract 0 K ++ T.extract (K + 1) T.size).size ≤ 1000 := by
          rw [← list_size, HU.out, List.length_append, List.length_take, List.length_drop, list_size]
          have := HSZ.out
          omega
        have FG := Lib.hid (refFigures_any (T.extract 0 K ++ T.extract (K + 1) T.size) hUs true)
        have hK1 : (K : Int) + 1 ≤ (T.size : Int) := by omega
        have hKle : (K : Int) ≤ (T.size : Int) := by omega
        have hKn : K ≤ T.size := by omega
        have hK10 : (0 : Int) ≤ (K : Int) + 1 := by omega
        have htn : ((K : Int) + 1).toNat = K + 1 := by omega
        have hKw : IntKind.i64.wrap ((K : Int) + 1) = (K : Int) + 1 := IntWalk.i64_in _ (by have := HSZ.out; omega)
        have hK1n : K + 1 ≤ T.size := by omega
        have hss : ¬ 9223372036854775807 < min K T.size + (T.size - (K + 1)) := by have := HSZ.out; omega
        have hss2 : ¬ 9223372036854775807 < K + (T.size - (K + 1)) := by have := HSZ.out; omega
        clear hKe hUs
        go_upto_region 33 with fail
        go_region_law (go_simp; go_at_call 45; refine (FG.out _).mono ?_; rintro e w2 ⟨⟨v, ok, rfl, hv, hfig⟩, rfl⟩; have HV := Lib.hid (And.intro hv hfig); clear hv hfig)
        all_goals
          cases ok with
          | true =>
            have HY : Hid (∀ W, Below w.heap.size w W → GuT w s (.returned (.agg #[.int .i64 3, .int .i64 v, .string ⟨#[]⟩])) W) := Lib.hid fun W hW => gut_num hW HNS.out (by unfold i64ok; simp) HV.out.1 fun v0 hv0 => by
              obtain ⟨n, h1, h2, h3, h4, h5, h6⟩ := num_point hv0 HK.out.1 HK.out.2
              obtain ⟨h7, _⟩ := HV.out.2 n h2 (by simpa using h3) (by rw [HU.out]; exact h4) (by rw [HU.out]; exact h5) (by rw [HU.out]; exact h6)
              rw [h1, h7]
            go_wp2_with fail
            refine bodyPost_ret (v := .agg #[.int .i64 3, .int .i64 v, .string ⟨#[]⟩]) (by simp [results, Tryz.results27, go_sem]) rfl ?_
            exact HY.out _ (by first | exact alloc_below _ _ | exact (alloc_below _ _).trans ((drewN_below _ _).mono (alloc_below _ _).size) | exact (alloc_below _ _).drew)
          | false =>
            have HY : Hid (∀ W, Below w.heap.size w W → GuT w s (.returned (.agg #[.int .i64 0, .int .i64 1, .string ⟨#[]⟩])) W) := Lib.hid fun W hW => gut_num hW HNS.out (by unfold i64ok; simp) (by unfold i64ok; simp) fun v0 hv0 => by
              obtain ⟨n, h1, h2, h3, h4, h5, h6⟩ := num_point hv0 HK.out.1 HK.out.2
              obtain ⟨_, h7⟩ := HV.out.2 n h2 (by simpa using h3) (by rw [HU.out]; exact h4) (by rw [HU.out]; exact h5) (by rw [HU.out]; exact h6)
              cases h7
            go_wp2_with fail
            refine bodyPost_ret (v := .agg #[.int .i64 0, .int .i64 1, .string ⟨#[]⟩]) (by simp [results, Tryz.results27, go_sem]) rfl ?_
            exact HY.out _ (by first | exact alloc_below _ _ | exact (alloc_below _ _).trans ((drewN_below _ _).mono (alloc_below _ _).size) | exact (alloc_below _ _).drew)
      · have hz : (((T[K]'hKl).toNat : Int) == 46) = false := by
          refine beq_false_of_ne fun e => hc (UInt8.toNat_inj.1 ?_)
          have e1 : (46 : UInt8).toNat = 46 := rfl
          rw [e1]; omega
        have HP : Hid (¬ (5 < T.data.toList.length ∧ T.data.toList[T.data.toList.length - 5]? = some 46)) := Lib.hid (no_point hKl (by omega) hc)
        have FG := Lib.hid (refFigures_any T HSZ.out true)
        go_upto_region 38 with (go_at_call 45; refine (FG.out _).mono ?_; rintro e w2 ⟨⟨v, ok, rfl, hv, hfig⟩, rfl⟩; have HV := Lib.hid (And.intro hv hfig); clear hv hfig)
        cases ok with
        | true =>
          have HY : Hid (∀ W, Below w.heap.size w W → GuT w s (.returned (.agg #[.int .i64 2, .int .i64 v, .string ⟨#[]⟩])) W) := Lib.hid fun W hW => gut_num hW HNS.out (by unfold i64ok; simp) HV.out.1 fun v0 hv0 => by
            obtain ⟨n, h1, h2, h3, h4, h5, h6⟩ := num_plain hv0 HP.out
            obtain ⟨h7, _⟩ := HV.out.2 n h2 (by simpa using h3) h4 h5 h6
            rw [h1, h7]
          go_wp2_with fail
          refine bodyPost_ret (v := .agg #[.int .i64 2, .int .i64 v, .string ⟨#[]⟩]) (by simp [results, Tryz.results27, go_sem]) rfl ?_
          exact HY.out _ (by first | exact alloc_below _ _ | exact (alloc_below _ _).trans ((drewN_below _ _).mono (alloc_below _ _).size) | exact (alloc_below _ _).drew)
        | false =>
          have HY : Hid (∀ W, Below w.heap.size w W → GuT w s (.returned (.agg #[.int .i64 0, .int .i64 1, .string ⟨#[]⟩])) W) := Lib.hid fun W hW => gut_num hW HNS.out (by unfold i64ok; simp) (by unfold i64ok; simp) fun v0 hv0 => by
            obtain ⟨n, h1, h2, h3, h4, h5, h6⟩ := num_plain hv0 HP.out
            obtain ⟨_, h7⟩ := HV.out.2 n h2 (by simpa using h3) h4 h5 h6
            cases h7
          go_wp2_with fail
          refine bodyPost_ret (v := .agg #[.int .i64 0, .int .i64 1, .string ⟨#[]⟩]) (by simp [results, Tryz.results27, go_sem]) rfl ?_
          exact HY.out _ (by first | exact alloc_below _ _ | exact (alloc_below _ _).trans ((drewN_below _ _).mono (alloc_below _ _).size) | exact (alloc_below _ _).drew)
    · have hK0 : ¬ (0 : Int) < (T.size : Int) - 5 := by omega
      have HP : Hid (¬ (5 < T.data.toList.length ∧ T.data.toList[T.data.toList.length - 5]? = some 46)) := Lib.hid (no_room h5)
      have FG := Lib.hid (refFigures_any T HSZ.out true)
      go_upto_region 38 with (go_at_call 45; refine (FG.out _).mono ?_; rintro e w2 ⟨⟨v, ok, rfl, hv, hfig⟩, rfl⟩; have HV := Lib.hid (And.intro hv hfig); clear hv hfig)
      cases ok with
      | true =>
        have HY : Hid (∀ W, Below w.heap.size w W → GuT w s (.returned (.agg #[.int .i64 2, .int .i64 v, .string ⟨#[]⟩])) W) := Lib.hid fun W hW => gut_num hW HNS.out (by unfold i64ok; simp) HV.out.1 fun v0 hv0 => by
          obtain ⟨n, h1, h2, h3, h4, h5, h6⟩ := num_plain hv0 HP.out
          obtain ⟨h7, _⟩ := HV.out.2 n h2 (by simpa using h3) h4 h5 h6
          rw [h1, h7]
        go_wp2_with fail
        refine bodyPost_ret (v := .agg #[.int .i64 2, .int .i64 v, .string ⟨#[]⟩]) (by simp [results, Tryz.results27, go_sem]) rfl ?_
        exact HY.out _ (by first | exact alloc_below _ _ | exact (alloc_below _ _).trans ((drewN_below _ _).mono (alloc_below _ _).size) | exact (alloc_below _ _).drew)
      | false =>
        have HY : Hid (∀ W, Below w.heap.size w W → GuT w s (.returned (.agg #[.int .i64 0, .int .i64 1, .string ⟨#[]⟩])) W) := Lib.hid fun W hW => gut_num hW HNS.out (by unfold i64ok; simp) (by unfold i64ok; simp) fun v0 hv0 => by
          obtain ⟨n, h1, h2, h3, h4, h5, h6⟩ := num_plain hv0 HP.out
          obtain ⟨_, h7⟩ := HV.out.2 n h2 (by simpa using h3) h4 h5 h6
          cases h7
        go_wp2_with fail
        refine bodyPost_ret (v := .agg #[.int .i64 0, .int .i64 1, .string ⟨#[]⟩]) (by simp [results, Tryz.results27, go_sem]) rfl ?_
        exact HY.out _ (by first | exact alloc_below _ _ | exact (alloc_below _ _).trans ((drewN_below _ _).mono (alloc_below _ _).size) | exact (alloc_below _ _).drew)
set_option maxRecDepth 100000 in
set_option maxHeartbeats 16000000 in
theorem gu_plus (s : ByteArray) (hs : s.size ≤ 1000) (a0 : s ≠ s_null) (a1 : s ≠ s_false) (a2 : s ≠ s_true) (HSZ : Hid (s.size ≤ 1000)) (HNS : Hid (∀ v : Val, v.ok → rightB v = true → textS v = s → NumSh false s.data.toList v))
    (h : s.size = 0 ∨ ∃ h0 : 0 < s.size, (((s[0]'h0).toNat : Int) == 45) = false ∧ ((((s[0]'h0).toNat : Int) == 120) = false ∨ ¬ (2 : Int) < (s.size : Int)) ∧ ((((s[0]'h0).toNat : Int) == 39) = false ∨ ¬ (1 : Int) < (s.size : Int))) (w : World) : Calls Tryz.prog 27 #[.string s] w (GuT w s) := by
  obtain ⟨n1, m1⟩ := ne_const (l := [110, 117, 108, 108]) a0 rfl
  obtain ⟨n2, m2⟩ := ne_const (l := [102, 97, 108, 115, 101]) a1 rfl
  obtain ⟨n3, m3⟩ := ne_const (l := [116, 114, 117, 101]) a2 rfl
  have hsi : (s.size : Int) ≤ 1000 := by omega
  have h2 : (2 : Int) < (s.size : Int) ∨ (¬ (2 : Int) < (s.size : Int) ∧ (1 : Int) < (s.size : Int)) ∨ (¬ (2 : Int) < (s.size : Int) ∧ ¬ (1 : Int) < (s.size : Int)) := by omega
  clear a0 a1 a2 hs
  rcases h with hz0 | ⟨h0, hx2, hx0, hx1⟩
  · have h0i : ¬ (0 : Int) < (s.size : Int) := by omega
    have h2i : ¬ (2 : Int) < (s.size : Int) := by omega
    have h1i : ¬ (1 : Int) < (s.size : Int) := by omega
    have HZ0 := Lib.hid hz0
    clear h2 hz0
    go_enter Tryz.func27, Tryz.ntmps27
    go_upto_region 32 with fail
    have h5 : ¬ 5 < s.size := by have := HZ0.out; omega
    have hK0 : ¬ (0 : Int) < (s.size : Int) - 5 := by omega
    have HP : Hid (¬ (5 < s.data.toList.length ∧ s.data.toList[s.data.toList.length - 5]? = some 46)) := Lib.hid (no_room h5)
    have FG := Lib.hid (refFigures_any s HSZ.out false)
    go_upto_region 38 with (go_at_call 45; refine (FG.out _).mono ?_; rintro e w2 ⟨⟨v, ok, rfl, hv, hfig⟩, rfl⟩; have HV := Lib.hid (And.intro hv hfig); clear hv hfig)
    cases ok with
    | true =>
      have HY : Hid (∀ W, Below w.heap.size w W → GuT w s (.returned (.agg #[.int .i64 2, .int .i64 v, .string ⟨#[]⟩])) W) := Lib.hid fun W hW => gut_num hW HNS.out (by unfold i64ok; simp) HV.out.1 fun v0 hv0 => by
        obtain ⟨n, h1, h2, h3, h4, h5, h6⟩ := num_plain hv0 HP.out
        obtain ⟨h7, _⟩ := HV.out.2 n h2 (by simpa using h3) h4 h5 h6
        rw [h1, h7]
      go_wp2_with fail
      refine bodyPost_ret (v := .agg #[.int .i64 2, .int .i64 v, .string ⟨#[]⟩]) (by simp [results, Tryz.results27, go_sem]) rfl ?_
      exact HY.out _ (by first | exact alloc_below _ _ | exact (alloc_below _ _).trans ((drewN_below _ _).mono (alloc_below _ _).size) | exact (alloc_below _ _).drew)
    | false =>
      have HY : Hid (∀ W, Below w.heap.size w W → GuT w s (.returned (.agg #[.int .i64 0, .int .i64 1, .string ⟨#[]⟩])) W) := Lib.hid fun W hW => gut_num hW HNS.out (by unfold i64ok; simp) (by unfold i64ok; simp) fun v0 hv0 => by
        obtain ⟨n, h1, h2, h3, h4, h5, h6⟩ := num_plain hv0 HP.out
        obtain ⟨_, h7⟩ := HV.out.2 n h2 (by simpa using h3) h4 h5 h6
        cases h7
      go_wp2_with fail
      refine bodyPost_ret (v := .agg #[.int .i64 0, .int .i64 1, .string ⟨#[]⟩]) (by simp [results, Tryz.results27, go_sem]) rfl ?_
      exact HY.out _ (by first | exact alloc_below _ _ | exact (alloc_below _ _).trans ((drewN_below _ _).mono (alloc_below _ _).size) | exact (alloc_below _ _).drew)
  · have h0i : (0 : Int) < (s.size : Int) := by omega
    rcases h2 with h2 | ⟨h2, h3⟩ | ⟨h2, h3⟩
    · have hy0 : (((s[0]'h0).toNat : Int) == 120) = false := hx0.resolve_right (fun e => e h2)
      have hy1 : (((s[0]'h0).toNat : Int) == 39) = false := hx1.resolve_right (fun e => e (by omega))
      clear hx0 hx1
      go_enter Tryz.func27, Tryz.ntmps27
      go_upto_region 32 with fail
      by_cases h5 : 5 < s.size
      · obtain ⟨K, hK⟩ : ∃ K : Nat, (s.size : Int) - 5 = (K : Int) := ⟨s.size - 5, by omega⟩
        rw [hK]
        have hKl : K < s.size := by omega
        have hK0 : (0 : Int) < (K : Int) := by omega
        have hKi : (K : Int) < (s.size : Int) := by omega
        by_cases hc : s[K]'hKl = 46
        · have hz : (((s[K]'hKl).toNat : Int) == 46) = true := by rw [hc]; rfl
          have hKe : K = s.data.toList.length - 5 := by rw [list_size]; omega
          have HK : Hid (5 < s.data.toList.length ∧ s.data.toList[s.data.toList.length - 5]? = some 46) := Lib.hid ⟨by rw [list_size]; exact h5, by rw [← hKe, list_get hKl, hc]⟩
          have HU : Hid ((s.extract 0 K ++ s.extract (K + 1) s.size).data.toList = s.data.toList.take (s.data.toList.length - 5) ++ s.data.toList.drop (s.data.toList.length - 5 + 1)) := Lib.hid (by rw [bapp, ext_front, ext_back, ← hKe])
          have hUs : (s.extract 0 K ++ s.extract (K + 1) s.size).size ≤ 1000 := by
            rw [← list_size, HU.out, List.length_append, List.length_take, List.length_drop, list_size]
            have := HSZ.out
            omega
          have FG := Lib.hid (refFigures_any (s.extract 0 K ++ s.extract (K + 1) s.size) hUs false)
          have hK1 : (K : Int) + 1 ≤ (s.size : Int) := by omega
          have hKle : (K : Int) ≤ (s.size : Int) := by omega
          have hKn : K ≤ s.size := by omega
          have hK10 : (0 : Int) ≤ (K : Int) + 1 := by omega
          have htn : ((K : Int) + 1).toNat = K + 1 := by omega
          have hKw : IntKind.i64.wrap ((K : Int) + 1) = (K : Int) + 1 := IntWalk.i64_in _ (by have := HSZ.out; omega)
          have hK1n : K + 1 ≤ s.size := by omega
          have hss : ¬ 9223372036854775807 < min K s.size + (s.size - (K + 1)) := by have := HSZ.out; omega
          have hss2 : ¬ 9223372036854775807 < K + (s.size - (K + 1)) := by have := HSZ.out; omega
          clear hKe hUs
          go_upto_region 33 with fail
          go_region_law (go_simp; go_at_call 45; refine (FG.out _).mono ?_; rintro e w2 ⟨⟨v, ok, rfl, hv, hfig⟩, rfl⟩; have HV := Lib.hid (And.intro hv hfig); clear hv hfig)
          all_goals
            cases ok with
            | true =>
              have HY : Hid (∀ W, Below w.heap.size w W → GuT w s (.returned (.agg #[.int .i64 3, .int .i64 v, .string ⟨#[]⟩])) W) := Lib.hid fun W hW => gut_num hW HNS.out (by unfold i64ok; simp) HV.out.1 fun v0 hv0 => by
                obtain ⟨n, h1, h2, h3, h4, h5, h6⟩ := num_point hv0 HK.out.1 HK.out.2
                obtain ⟨h7, _⟩ := HV.out.2 n h2 (by simpa using h3) (by rw [HU.out]; exact h4) (by rw [HU.out]; exact h5) (by rw [HU.out]; exact h6)
                rw [h1, h7]
              go_wp2_with fail
              refine bodyPost_ret (v := .agg #[.int .i64 3, .int .i64 v, .string ⟨#[]⟩]) (by simp [results, Tryz.results27, go_sem]) rfl ?_
              exact HY.out _ (by first | exact alloc_below _ _ | exact (alloc_below _ _).trans ((drewN_below _ _).mono (alloc_below _ _).size) | exact (alloc_below _ _).drew)
            | false =>
              have HY : Hid (∀ W, Below w.heap.size w W → GuT w s (.returned (.agg #[.int .i64 0, .int .i64 1, .string ⟨#[]⟩])) W) := Lib.hid fun W hW => gut_num hW HNS.out (by unfold i64ok; simp) (by unfold i64ok; simp) fun v0 hv0 => by
                obtain ⟨n, h1, h2, h3, h4, h5, h6⟩ := num_point hv0 HK.out.1 HK.out.2
                obtain ⟨_, h7⟩ := HV.out.2 n h2 (by simpa using h3) (by rw [HU.out]; exact h4) (by rw [HU.out]; exact h5) (by rw [HU.out]; exact h6)
                cases h7
              go_wp2_with fail
              refine bodyPost_ret (v := .agg #[.int .i64 0, .int .i64 1, .string ⟨#[]⟩]) (by simp [results, Tryz.results27, go_sem]) rfl ?_
              exact HY.out _ (by first | exact alloc_below _ _ | exact (alloc_below _ _).trans ((drewN_below _ _).mono (alloc_below _ _).size) | exact (alloc_below _ _).drew)
        · have hz : (((s[K]'hKl).toNat : Int) == 46) = false := by
            refine beq_false_of_ne fun e => hc (UInt8.toNat_inj.1 ?_)
            have e1 : (46 : UInt8).toNat = 46 := rfl
            rw [e1]; omega
          have HP : Hid (¬ (5 < s.data.toList.length ∧ s.data.toList[s.data.toList.length - 5]? = some 46)) := Lib.hid (no_point hKl (by omega) hc)
          have FG := Lib.hid (refFigures_any s HSZ.out false)
          go_upto_region 38 with (go_at_call 45; refine (FG.out _).mono ?_; rintro e w2 ⟨⟨v, ok, rfl, hv, hfig⟩, rfl⟩; have HV := Lib.hid (And.intro hv hfig); clear hv hfig)
          cases ok with
          | true =>
            have HY : Hid (∀ W, Below w.heap.size w W → GuT w s (.returned (.agg #[.int .i64 2, .int .i64 v, .string ⟨#[]⟩])) W) := Lib.hid fun W hW => gut_num hW HNS.out (by unfold i64ok; simp) HV.out.1 fun v0 hv0 => by
              obtain ⟨n, h1, h2, h3, h4, h5, h6⟩ := num_plain hv0 HP.out
              obtain ⟨h7, _⟩ := HV.out.2 n h2 (by simpa using h3) h4 h5 h6
              rw [h1, h7]
            go_wp2_with fail
            refine bodyPost_ret (v := .agg #[.int .i64 2, .int .i64 v, .string ⟨#[]⟩]) (by simp [results, Tryz.results27, go_sem]) rfl ?_
            exact HY.out _ (by first | exact alloc_below _ _ | exact (alloc_below _ _).trans ((drewN_below _ _).mono (alloc_below _ _).size) | exact (alloc_below _ _).drew)
          | false =>
            have HY : Hid (∀ W, Below w.heap.size w W → GuT w s (.returned (.agg #[.int .i64 0, .int .i64 1, .string ⟨#[]⟩])) W) := Lib.hid fun W hW => gut_num hW HNS.out (by unfold i64ok; simp) (by unfold i64ok; simp) fun v0 hv0 => by
              obtain ⟨n, h1, h2, h3, h4, h5, h6⟩ := num_plain hv0 HP.out
              obtain ⟨_, h7⟩ := HV.out.2 n h2 (by simpa using h3) h4 h5 h6
              cases h7
            go_wp2_with fail
            refine bodyPost_ret (v := .agg #[.int .i64 0, .int .i64 1, .string ⟨#[]⟩]) (by simp [results, Tryz.results27, go_sem]) rfl ?_
            exact HY.out _ (by first | exact alloc_below _ _ | exact (alloc_below _ _).trans ((drewN_below _ _).mono (alloc_below _ _).size) | exact (alloc_below _ _).drew)
      · have hK0 : ¬ (0 : Int) < (s.size : Int) - 5 := by omega
        have HP : Hid (¬ (5 < s.data.toList.length ∧ s.data.toList[s.data.toList.length - 5]? = some 46)) := Lib.hid (no_room h5)
        have FG := Lib.hid (refFigures_any s HSZ.out false)
        go_upto_region 38 with (go_at_call 45; refine (FG.out _).mono ?_; rintro e w2 ⟨⟨v, ok, rfl, hv, hfig⟩, rfl⟩; have HV := Lib.hid (And.intro hv hfig); clear hv hfig)
        cases ok with
        | true =>
          have HY : Hid (∀ W, Below w.heap.size w W → GuT w s (.returned (.agg #[.int .i64 2, .int .i64 v, .string ⟨#[]⟩])) W) := Lib.hid fun W hW => gut_num hW HNS.out (by unfold i64ok; simp) HV.out.1 fun v0 hv0 => by
            obtain ⟨n, h1, h2, h3, h4, h5, h6⟩ := num_plain hv0 HP.out
            obtain ⟨h7, _⟩ := HV.out.2 n h2 (by simpa using h3) h4 h5 h6
            rw [h1, h7]
          go_wp2_with fail
          refine bodyPost_ret (v := .agg #[.int .i64 2, .int .i64 v, .string ⟨#[]⟩]) (by simp [results, Tryz.results27, go_sem]) rfl ?_
          exact HY.out _ (by first | exact alloc_below _ _ | exact (alloc_below _ _).trans ((drewN_below _ _).mono (alloc_below _ _).size) | exact (alloc_below _ _).drew)
        | false =>
          have HY : Hid (∀ W, Below w.heap.size w W → GuT w s (.returned (.agg #[.int .i64 0, .int .i64 1, .string ⟨#[]⟩])) W) := Lib.hid fun W hW => gut_num hW HNS.out (by unfold i64ok; simp) (by unfold i64ok; simp) fun v0 hv0 => by
            obtain ⟨n, h1, h2, h3, h4, h5, h6⟩ := num_plain hv0 HP.out
            obtain ⟨_, h7⟩ := HV.out.2 n h2 (by simpa using h3) h4 h5 h6
            cases h7
          go_wp2_with fail
          refine bodyPost_ret (v := .agg #[.int .i64 0, .int .i64 1, .string ⟨#[]⟩]) (by simp [results, Tryz.results27, go_sem]) rfl ?_
          exact HY.out _ (by first | exact alloc_below _ _ | exact (alloc_below _ _).trans ((drewN_below _ _).mono (alloc_below _ _).size) | exact (alloc_below _ _).drew)
    · have hy1 : (((s[0]'h0).toNat : Int) == 39) = false := hx1.resolve_right (fun e => e h3)
      clear hx0 hx1
      go_enter Tryz.func27, Tryz.ntmps27
      go_upto_region 32 with fail
      have h5 : ¬ 5 < s.size := by omega
      have hK0 : ¬ (0 : Int) < (s.size : Int) - 5 := by omega
      have HP : Hid (¬ (5 < s.data.toList.length ∧ s.data.toList[s.data.toList.length - 5]? = some 46)) := Lib.hid (no_room h5)
      have FG := Lib.hid (refFigures_any s HSZ.out false)
      go_upto_region 38 with (go_at_call 45; refine (FG.out _).mono ?_; rintro e w2 ⟨⟨v, ok, rfl, hv, hfig⟩, rfl⟩; have HV := Lib.hid (And.intro hv hfig); clear hv hfig)
      cases ok with
      | true =>
        have HY : Hid (∀ W, Below w.heap.size w W → GuT w s (.returned (.agg #[.int .i64 2, .int .i64 v, .string ⟨#[]⟩])) W) := Lib.hid fun W hW => gut_num hW HNS.out (by unfold i64ok; simp) HV.out.1 fun v0 hv0 => by
          obtain ⟨n, h1, h2, h3, h4, h5, h6⟩ := num_plain hv0 HP.out
          obtain ⟨h7, _⟩ := HV.out.2 n h2 (by simpa using h3) h4 h5 h6
          rw [h1, h7]
        go_wp2_with fail
        refine bodyPost_ret (v := .agg #[.int .i64 2, .int .i64 v, .string ⟨#[]⟩]) (by simp [results, Tryz.results27, go_sem]) rfl ?_
        exact HY.out _ (by first | exact alloc_below _ _ | exact (alloc_below _ _).trans ((drewN_below _ _).mono (alloc_below _ _).size) | exact (alloc_below _ _).drew)
      | false =>
        have HY : Hid (∀ W, Below w.heap.size w W → GuT w s (.returned (.agg #[.int .i64 0, .int .i64 1, .string ⟨#[]⟩])) W) := Lib.hid fun W hW => gut_num hW HNS.out (by unfold i64ok; simp) (by unfold i64ok; simp) fun v0 hv0 => by
          obtain ⟨n, h1, h2, h3, h4, h5, h6⟩ := num_plain hv0 HP.out
          obtain ⟨_, h7⟩ := HV.out.2 n h2 (by simpa using h3) h4 h5 h6
          cases h7
        go_wp2_with fail
        refine bodyPost_ret (v := .agg #[.int .i64 0, .int .i64 1, .string ⟨#[]⟩]) (by simp [results, Tryz.results27, go_sem]) rfl ?_
        exact HY.out _ (by first | exact alloc_below _ _ | exact (alloc_below _ _).trans ((drewN_below _ _).mono (alloc_below _ _).size) | exact (alloc_below _ _).drew)
    · clear hx0 hx1
      go_enter Tryz.func27, Tryz.ntmps27
      go_upto_region 32 with fail
      have h5 : ¬ 5 < s.size := by omega
      have hK0 : ¬ (0 : Int) < (s.size : Int) - 5 := by omega
      have HP : Hid (¬ (5 < s.data.toList.length ∧ s.data.toList[s.data.toList.length - 5]? = some 46)) := Lib.hid (no_room h5)
      have FG := Lib.hid (refFigures_any s HSZ.out false)
      go_upto_region 38 with (go_at_call 45; refine (FG.out _).mono ?_; rintro e w2 ⟨⟨v, ok, rfl, hv, hfig⟩, rfl⟩; have HV := Lib.hid (And.intro hv hfig); clear hv hfig)
      cases ok with
      | true =>
        have HY : Hid (∀ W, Below w.heap.size w W → GuT w s (.returned (.agg #[.int .i64 2, .int .i64 v, .string ⟨#[]⟩])) W) := Lib.hid fun W hW => gut_num hW HNS.out (by unfold i64ok; simp) HV.out.1 fun v0 hv0 => by
          obtain ⟨n, h1, h2, h3, h4, h5, h6⟩ := num_plain hv0 HP.out
          obtain ⟨h7, _⟩ := HV.out.2 n h2 (by simpa using h3) h4 h5 h6
          rw [h1, h7]
        go_wp2_with fail
        refine bodyPost_ret (v := .agg #[.int .i64 2, .int .i64 v, .string ⟨#[]⟩]) (by simp [results, Tryz.results27, go_sem]) rfl ?_
        exact HY.out _ (by first | exact alloc_below _ _ | exact (alloc_below _ _).trans ((drewN_below _ _).mono (alloc_below _ _).size) | exact (alloc_below _ _).drew)
      | false =>
        have HY : Hid (∀ W, Below w.heap.size w W → GuT w s (.returned (.agg #[.int .i64 0, .int .i64 1, .string ⟨#[]⟩])) W) := Lib.hid fun W hW => gut_num hW HNS.out (by unfold i64ok; simp) (by unfold i64ok; simp) fun v0 hv0 => by
          obtain ⟨n, h1, h2, h3, h4, h5, h6⟩ := num_plain hv0 HP.out
          obtain ⟨_, h7⟩ := HV.out.2 n h2 (by simpa using h3) h4 h5 h6
          cases h7
        go_wp2_with fail
        refine bodyPost_ret (v := .agg #[.int .i64 0, .int .i64 1, .string ⟨#[]⟩]) (by simp [results, Tryz.results27, go_sem]) rfl ?_
        exact HY.out _ (by first | exact alloc_below _ _ | exact (alloc_below _ _).trans ((drewN_below _ _).mono (alloc_below _ _).size) | exact (alloc_below _ _).drew)
theorem refGuess_any (s : ByteArray) (hs : s.size ≤ 1000) (w : World) : Calls Tryz.prog 27 #[.string s] w (GuT w s) := by
  by_cases a0 : s = s_null
  · subst a0; exact gu_null w
  by_cases a1 : s = s_false
  · subst a1; exact gu_false w
  by_cases a2 : s = s_true
  · subst a2; exact gu_true w
  by_cases h0 : 0 < s.size
  · by_cases c45 : s[0]'h0 = 45
    · exact gu_minus s hs h0 c45 w
    · by_cases cx : s[0]'h0 = 120 ∧ 2 < s.size
      · exact gu_x s hs cx.2 h0 cx.1 w
      · by_cases cq : s[0]'h0 = 39 ∧ 1 < s.size
        · exact gu_q s hs cq.2 h0 cq.1 w
        · have hb : ∀ {a b : UInt8}, ¬ a = b → ((a.toNat : Int) == (b.toNat : Int)) = false := fun h => beq_false_of_ne fun e => h (UInt8.toNat_inj.1 (by omega))
          have hhd : s.data.toList.head? = some (s[0]'h0) := by rw [List.head?_eq_getElem?, list_get h0]
          refine gu_plus s hs a0 a1 a2 (Lib.hid hs) (Lib.hid fun v hv rv e => ?_) (.inr ⟨h0, hb c45, ?_, ?_⟩) w
          · have hne : ∀ c : ByteArray, s ≠ c → s.data.toList ≠ c.data.toList := fun c h e => h (bytes_ext e)
            refine shape_num (shape_of hv rv e) (hne _ a0) (hne _ a1) (hne _ a2) ?_ ?_ ?_
            · rw [hhd]; simpa using c45
            · rw [hhd, list_size]; rintro ⟨h1, h2⟩; exact cx ⟨by simpa using h2, h1⟩
            · rw [hhd, list_size]; rintro ⟨h1, h2⟩; exact cq ⟨by simpa using h2, h1⟩
          · by_cases c : s[0]'h0 = 120
            · exact .inr (by have : ¬ 2 < s.size := fun h => cx ⟨c, h⟩; omega)
            · exact .inl (hb c)
          · by_cases c : s[0]'h0 = 39
            · exact .inr (by have : ¬ 1 < s.size := fun h => cq ⟨c, h⟩; omega)
            · exact .inl (hb c)
  · have hz : s.size = 0 := by omega
    have hl : s.data.toList = [] := List.length_eq_zero_iff.1 (by rw [list_size]; exact hz)
    refine gu_plus s hs a0 a1 a2 (Lib.hid hs) (Lib.hid fun v hv rv e => ?_) (.inl hz) w
    have hne : ∀ c : ByteArray, s ≠ c → s.data.toList ≠ c.data.toList := fun c h e => h (bytes_ext e)
    refine shape_num (shape_of hv rv e) (hne _ a0) (hne _ a1) (hne _ a2) ?_ ?_ ?_
    · rw [hl]; simp
    · rw [hl]; simp
    · rw [hl]; simp
end Go.Proofs.YtneppncnccangaaGreatDoor
