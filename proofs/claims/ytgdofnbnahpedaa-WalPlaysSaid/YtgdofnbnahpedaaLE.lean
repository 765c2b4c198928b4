/- The document's Scan. -/
import Derived.Test.YtgdofnbnahpedaaLD
import Derived.Test.YtgdofnbnahpedaaLB
namespace Go.Proofs.Ytgdofnbnahpedaa
open Go.RowKit

theorem infoEn : (Try.prog.info? 62).map (fun i => (i.zero, i.size, i.bytes)) = some (some (.agg #[.int .i64 0, .slice none 0 0]), 2, 32) := by kernel_rfl
/-- in bytes that begin with records: what is at a record's place -/
theorem scan_at {rs : List (List UInt8)} {t : List UInt8} {i : Nat} {r : List UInt8} (h : rs[i]? = some r) (h1 : 1 ≤ r.length) (h2 : r.length ≤ 4096) : (bytesOf rs ++ t)[startOf 0 rs i + 1]? = some (hiB r) ∧ (bytesOf rs ++ t)[startOf 0 rs i + 2]? = some (loB r) ∧ 256 * (hiB r).toNat + (loB r).toNat + 1 = r.length ∧ startOf 0 rs i + 5 + r.length ≤ (bytesOf rs ++ t).length ∧ ((bytesOf rs ++ t).drop (startOf 0 rs i + 5)).take r.length = r ∧ ((bytesOf rs ++ t).drop (startOf 0 rs i)).take (r.length + 5) = frameL r := by
  have e1 : bytesOf rs ++ t = bytesOf (rs.take i) ++ (frameL r ++ (bytesOf (rs.drop (i + 1)) ++ t)) := by
    rw [← rest_at h t, ← List.append_assoc, ← bytesOf_app, List.take_append_drop]
  have e2 : startOf 0 rs i = (bytesOf (rs.take i)).length := by unfold startOf; omega
  obtain ⟨X, hX⟩ : ∃ X, X = bytesOf (rs.take i) := ⟨_, rfl⟩
  obtain ⟨Y, hY⟩ : ∃ Y, Y = bytesOf (rs.drop (i + 1)) ++ t := ⟨_, rfl⟩
  rw [e1, e2, ← hX, ← hY]
  refine ⟨?_, ?_, ?_, ?_, ?_, ?_⟩
  · rw [List.getElem?_append_right (by omega), show X.length + 1 - X.length = 1 by omega]; rfl
  · rw [List.getElem?_append_right (by omega), show X.length + 2 - X.length = 2 by omega]; rfl
  · rw [hiB_nat (by omega), loB_nat]; omega
  · rw [List.length_append, List.length_append, frameL_len]; omega
  · rw [← List.drop_drop, List.drop_left]
    show (r ++ Y).take r.length = r
    rw [List.take_left]
  · rw [List.drop_left, ← frameL_len r, List.take_left]
theorem two_cells2 (w : World) (u v : Value) (t : TypeId) (j : Nat) (x : Value) (h : [u, v][j]? = some x) : (w.alloc (.cells #[u, v] t)).cell? ((⟨w.heap.size, 0, none⟩ : Addr).add j) = some x := by
  obtain ⟨h1, h2⟩ := box2 (heap_alloc_new w (.cells #[u, v] t))
  cases j with
  | zero => simp at h; subst h; exact h1
  | succ j => cases j with
    | zero => simp at h; subst h; exact h2
    | succ j => simp at h
theorem two_vals (n : Int) (A : Option Addr) (k c : Nat) : ∀ u ∈ [Value.int .i64 n, .slice A k c], u.oneCell' = true := by
  intro u hu
  rcases List.mem_cons.1 hu with rfl | hu
  · rfl
  · rw [List.mem_singleton] at hu; subst hu; rfl
set_option maxRecDepth 100000 in
set_option maxHeartbeats 8000000 in
theorem rscan_any {w : World} {q g n cap : Nat} (hq : q < w.heap.size) (rs : List (List UInt8)) (t : List UInt8) (ht : firstL t = 0) (hrs : ∀ r ∈ rs, 1 ≤ r.length ∧ r.length ≤ 4096) (hn : (bytesOf rs ++ t).length = n) (hcap : n ≤ cap) (hsm : n ≤ 200000) (b : Int) (hb0 : 0 ≤ b) (hb1 : b ≤ 1000000) (hr : RdB w w.heap.size (some ⟨g, 0, none⟩) (bytesOf rs ++ t)) :
    Calls Try.prog 70 #[.slice (some ⟨g, 0, none⟩) n cap, .int .i64 b] w (ScT w q b rs) := by
  obtain ⟨i0, hi, hz0, hz1, hz2⟩ := info_parts info8
  obtain ⟨ie, hie, hze0, hze1, hze2⟩ := info_parts infoEn
  have HR := Lib.hid hr
  have HQ := Lib.hid hq
  have HRS := Lib.hid hrs
  have HT := Lib.hid ht
  have HN := Lib.hid hn
  have hni : (n : Int) ≤ 200000 := by omega
  have hci : (n : Int) ≤ (cap : Int) := by omega
  have hrl : rs.length ≤ 200000 := by have := bytesOf_len rs; rw [List.length_append] at hn; omega
  have HRL := Lib.hid hrl
  have HST : Hid (ScL w q b rs (.slice none 0 0) (.int .i64 0) w) := Lib.hid ⟨0, q, [], rfl, Nat.zero_le _, rfl, .inl ⟨rfl, rfl, rfl, rfl⟩, .inl rfl, (fun x hx => by cases hx), Below.refl _ _⟩
  clear hq hr hrs ht hn hrl
  go_enter Try.func70, Try.ntmps70
  go_wp2_with fail
  go_loopw [6, 7] (fun v6 v7 wr => ScL w q b rs v6 v7 wr) (fun _ v7 _ => n - (intOf v7).toNat)
  case atStart => exact HST.out
  case round =>
    obtain ⟨i, gA, es, h7, hil, hm, h6, hg, hok, hb⟩ := hrel
    obtain ⟨P, hP⟩ : ∃ P, P = startOf 0 rs i := ⟨_, rfl⟩
    rw [← hP] at h7
    subst h7
    have HM := Lib.hid hm
    have H6 := Lib.hid h6
    have HG := Lib.hid hg
    have HOK := Lib.hid hok
    have HB := Lib.hid hb
    have HGL : Hid (gA < wr.heap.size) := Lib.hid (h6.lt (by have := hb.size; have := HQ.out; omega))
    have hrw := HR.out.below hb (Nat.le_refl _)
    by_cases hlt : i < rs.length
    · obtain ⟨r, hri⟩ : ∃ r, rs[i]? = some r := ⟨_, List.getElem?_eq_getElem hlt⟩
      have hrr := HRS.out r (List.mem_of_getElem? hri)
      obtain ⟨a1, a2, a3, a4, a5, a6⟩ := scan_at (t := t) hri hrr.1 hrr.2
      have HRI := Lib.hid hri
      obtain ⟨D, hD⟩ : ∃ D, D = bytesOf rs ++ t := ⟨_, rfl⟩
      rw [← hP, ← hD] at a1 a2 a4 a5 a6
      rw [← hD] at hrw
      have hDn : D.length = n := by rw [hD]; exact HN.out
      obtain ⟨_, e, _, hcell⟩ := hrw (by intro e; rw [e] at a1; simp at a1)
      injection e with e
      subst e
      have c1 := hcell _ _ a1
      have c2 := hcell _ _ a2
      rw [add_plain] at c1 c2
      obtain ⟨N, hNr⟩ : ∃ N, N = r.length := ⟨_, rfl⟩
      obtain ⟨x, hx⟩ : ∃ x, x = (hiB r).toNat := ⟨_, rfl⟩
      obtain ⟨y, hy⟩ : ∃ y, y = (loB r).toNat := ⟨_, rfl⟩
      rw [← hx] at c1
      rw [← hy] at c2
      rw [← hx, ← hy, ← hNr] at a3
      rw [hDn, ← hNr] at a4
      rw [← hNr] at hrr
      have hNi : (256 : Int) * (x : Int) + (y : Int) + 1 = (N : Int) := by omega
      have hN1 : (1 : Int) ≤ (N : Int) := by omega
      have hN2 : (N : Int) ≤ 4096 := by omega
      have hfit : (P : Int) + 5 + (N : Int) ≤ (n : Int) := by omega
      have hx1 : (P : Int) + 1 < (n : Int) := by omega
      have hx2 : (P : Int) + 2 < (n : Int) := by omega
      have hPi : (P : Int) ≤ 200000 := by omega
      have hx1n : P + 1 < n := by omega
      have hx2n : P + 2 < n := by omega
      have hx10 : ¬ (P : Int) + 1 < 0 := by omega
      have hx20 : ¬ (P : Int) + 2 < 0 := by omega
      have hgt : ¬ (n : Int) - (P : Int) ≤ 5 := by omega
      have hgt2 : (5 : Int) < (n : Int) - (P : Int) := by omega
      have HP := Lib.hid hP
      have HD := Lib.hid hD
      have HNR := Lib.hid hNr
      have HXX := Lib.hid hx
      have HYY := Lib.hid hy
      have H56 := Lib.hid (And.intro a5 a6)
      have HDn := Lib.hid hDn
      have HRW := Lib.hid hrw
      clear hm h6 hg hok hb hri hcell a1 a2 hlt hil hP hD hNr hx hy a3 a5 a6 hDn hrw a4
      have HS0 : Hid (∀ W : World, W.heap = wr.heap → W.cell? ⟨g, P + 1, none⟩ = some (.int .u8 (x : Int)) ∧ W.cell? ⟨g, P + 2, none⟩ = some (.int .u8 (y : Int))) := Lib.hid fun W e => ⟨(World.cell?_of_block (by rw [e])).trans c1, (World.cell?_of_block (by rw [e])).trans c2⟩
      go_wp2_with fail
      have hw5 : IntKind.i64.wrap (256 * (x : Int) + (y : Int) + 1) = (N : Int) := by rw [IntKind.wrap_i64]; omega
      have hw4 : IntKind.i64.wrap (256 * (x : Int) + (y : Int)) = 256 * (x : Int) + (y : Int) := by rw [IntKind.wrap_i64]; omega
      have hw3 : IntKind.i64.wrap (256 * (x : Int)) = 256 * (x : Int) := by rw [IntKind.wrap_i64]; omega
      have hw7 : 0 ≤ (P : Int) + 2 := by omega
      have hw6 : 0 ≤ (P : Int) + 1 := by omega
      have hw9 : ((P : Int) + 2).toNat = P + 2 := by omega
      have hw8 : ((P : Int) + 1).toNat = P + 1 := by omega
      have hw2 : IntKind.i64.wrap ((P : Int) + 2) = (P : Int) + 2 := by rw [IntKind.wrap_i64]; omega
      have hw1 : IntKind.i64.wrap ((P : Int) + 1) = (P : Int) + 1 := by rw [IntKind.wrap_i64]; omega
      go_quiet (fail)
      clear hw1 hw2 hw3 hw4 hw5 hw6 hw7 hw8 hw9
      have hcp5 : ¬ cap = P + 5 := by omega
      have hcp0 : ¬ cap = P := by omega
      have hfit2 : (P : Int) + 5 + (N : Int) ≤ (cap : Int) := by omega
      have hbig : ¬ (4096 : Int) < (N : Int) := by omega
      have hrest : ¬ (n : Int) - (P : Int) - 5 < (N : Int) := by omega
      have hpn : (P : Int) + 5 ≤ (P : Int) + 5 + (N : Int) := by omega
      go_wp2_with fail
      obtain ⟨sf, hsf⟩ := ba_of (frameL r)
      have HSF := Lib.hid hsf
      clear hsf
      have HRr : Hid (RdB wr w.heap.size (some ⟨g, P + 5, none⟩) r) := Lib.hid (by
        have h9 := (HRW.out.shift (k := P + 5) (by omega)).take r.length
        rw [H56.out.1] at h9
        simp only [Nat.zero_add] at h9
        exact h9)
      have HRf : Hid (RdB wr w.heap.size (some ⟨g, P, none⟩) (frameL r)) := Lib.hid (by
        rcases Nat.eq_zero_or_pos P with h0 | h0
        · have h9 := HRW.out.take (r.length + 5)
          have h8 := H56.out.2
          rw [h0, List.drop_zero] at h8
          rw [h8] at h9
          rw [h0]; exact h9
        · have h9 := (HRW.out.shift h0).take (r.length + 5)
          rw [H56.out.2] at h9
          simp only [Nat.zero_add] at h9
          exact h9)
      have HWS : Hid (w.heap.size ≤ wr.heap.size) := Lib.hid HB.out.size
      have HDD : Hid (∀ k, Below wr.heap.size wr (wr.drewN k).drew) := Lib.hid fun k => (drewN_below wr k).trans ((drew_below _).mono (Nat.le_refl _))
      have HF : Hid (∀ W : World, Below wr.heap.size wr W → Calls Try.prog 74 #[.slice (some ⟨g, P + 5, none⟩) N (cap - (P + 5))] W (fun e w' => ∃ v, e = .returned v ∧ OwnB w' wr.heap.size v (frameL r) ∧ Below wr.heap.size wr w')) := Lib.hid fun W hW => by
        have h9 := rframe_any r (some ⟨g, P + 5, none⟩) N (cap - (P + 5)) HNR.out.symm (by have := HNR.out; omega) (by have := HNR.out; omega) W ((HRr.out.below hW HWS.out).more (Nat.le_trans HWS.out hW.size))
        refine h9.mono ?_
        rintro e w' ⟨v, he, ho, hb⟩
        exact ⟨v, he, ho.lower hW.size, hW.trans (hb.mono hW.size)⟩
      have HS0 : Hid (∀ W : World, Below wr.heap.size wr W → (convert 23 9 (.slice (some ⟨g, P, none⟩) (5 + N) (cap - P))).run Try.prog W = .ok (.string sf) W) := Lib.hid fun W hW => conv_rd (HRf.out.below hW HWS.out) (by have := HNR.out; rw [frameL_len]; omega) sf HSF.out
      have hlf : ((P : Int) + 5 + (N : Int) - (P : Int)).toNat = 5 + N := by omega
      have hs3 : 0 ≤ (P : Int) := by omega
      have hs4 : (P : Int) ≤ (P : Int) + 5 + (N : Int) := by omega
      have hs5 : 0 ≤ (P : Int) + 5 + (N : Int) := by omega
      have hs6 : P + 5 + N - P = 5 + N := by omega
      have hs7 : ((P : Int) + 5 + (N : Int)).toNat = P + 5 + N := by omega
      have hs2 : IntKind.i64.wrap ((P : Int) + 5 + (N : Int)) = (P : Int) + 5 + (N : Int) := by rw [IntKind.wrap_i64]; omega
      have hs1 : IntKind.i64.wrap ((P : Int) + 5) = (P : Int) + 5 := by rw [IntKind.wrap_i64]; omega
      have hkd : ∀ k, (convert 23 9 (.slice (some ⟨g, P, none⟩) (5 + N) (cap - P))).run Try.prog (wr.drewN k) = .ok (.string sf) (wr.drewN k) := fun k => HS0.out _ (drewN_below wr k)
      go_region_law
        (first
        | (go_simp; go_at_call 74; refine (HF.out _ (drewN_below wr _)).mono ?_; rintro e w1 ⟨v1, rfl, ho1, hb1⟩
           have kv := conv_ownS ho1 sf HSF.out
           have HB1 := Lib.hid hb1
           have kd1 := HS0.out _ hb1
           clear ho1 hb1)
        | fail)
      all_goals
        clear hs1 hs2 hs3 hs4 hs5 hs6 hs7
        obtain rfl := HNR.out
        have HN0 : Hid (1 ≤ r.length ∧ r.length ≤ 4096 ∧ P + 5 + r.length ≤ n ∧ i < rs.length ∧ rs.length ≤ 200000) := Lib.hid ⟨by omega, by omega, by omega, (List.getElem?_eq_some_iff.1 HRI.out).1, HRL.out⟩
        have HW1 : Hid (∀ o, Below wr.heap.size wr (w1.alloc o)) := Lib.hid fun o => HB1.out.trans ((alloc_below w1 o).mono HB1.out.size)
        have HE : Hid (OwnB (w1.alloc (.cells #[] 5)) wr.heap.size (.slice (some ⟨w1.heap.size, 0, none⟩) 0 0) []) := Lib.hid (own_empty HB1.out.size 0)
        have HR1 : Hid (∀ o, RdB (w1.alloc o) wr.heap.size (some ⟨g, P + 5, none⟩) r) := Lib.hid fun o => (HRr.out.below (HW1.out o) HWS.out).more HWS.out
        clear HF HS0 HDD
        go_wp2_with (first
          | (at_builtin
             refine wpList_appB (xs := []) (ys := r) (B := wr.heap.size) rfl _ _ 23 rfl Try.underlying23 hi hz0 hz1 hz2 rfl HE.out rfl rfl (HR1.out _) (by have := HN0.out; simp; omega) (HW1.out _).size ?_
             intro v5 w5 ho5 hg5
             have HB5 := Lib.hid (grew_below (HW1.out _) HE.out.ge hg5)
             rw [List.nil_append] at ho5
             obtain ⟨g5, cap5, hv5, _⟩ := ho5.head (by have := HN0.out; omega)
             subst hv5
             have HO5 := Lib.hid ho5
             have HHA : Hid (∀ o, HeldC (w5.alloc o) q gA 2 u6 i (entsV es)) := Lib.hid fun o => (H6.out.only (Only.of_below (K := fun _ => False) HB5.out) (fun _ => id)).only (Only.of_below (K := fun _ => False) (alloc_below w5 o)) (fun _ => id)
             have HQA : Hid (∀ o, q < (w5.alloc o).heap.size) := Lib.hid fun o => by have := alloc_size w5 o; have := HB5.out.size; have := HWS.out; have := HQ.out; omega
             clear ho5 hg5)
          | (at_builtin
             refine wpList_appHC (n := i) (m := 1) (ys := [.int .i64 (b + (P : Int)), .slice (some ⟨g5, 0, none⟩) r.length cap5]) (by rfl) _ _ 56 62 (by rfl) Try.underlying56 hie hze0 hze1 hze2 (by rfl) (by omega) (by rfl) (HHA.out _) (HQA.out _) (by rfl) (by rfl) (two_cells2 _ _ _ _) (two_vals _ _ _ _) (by have := HN0.out; omega) (by have := HN0.out; omega) ?_
             intro g6 v6 w6 ho6 hO6 hg6
             have HY : Hid (∀ v7, v7 = .int .i64 ((P + (r.length + 5) : Nat) : Int) → ScL w q b rs v6 v7 w6) := Lib.hid (fun v7 h7 => sc_next HQ.out HRI.out (by rw [HP.out]) HM.out HOK.out HG.out HGL.out HB.out HO5.out HB5.out ho6 hO6 hg6 (by rw [h7, HP.out]))
             clear ho6 hO6 hg6))
        go_roundw
        case rel => first | exact HY.out _ (by go_num) | ((repeat apply Exists.intro); exact ⟨HY.out _ (by go_num), rfl⟩)
        case measure => have := HN0.out; simp [intOf]; omega
    · have hie : i = rs.length := by omega
      subst hie
      rw [List.take_length] at hm
      have hP2 : P = (bytesOf rs).length := by rw [hP]; unfold startOf; rw [List.take_length]; omega
      have hDt : (bytesOf rs ++ t).drop P = t := by rw [hP2, List.drop_left]
      have hnP : n = P + t.length := by rw [← HN.out, List.length_append, hP2]
      have HYE : Hid (∀ W', Below wr.heap.size wr W' → ScT w q b rs (.returned (.tuple #[u6, .int .i64 (P : Int)])) W') := Lib.hid fun W' h => sc_end hm h6 hg hok hb h (P : Int) (by rw [hP2])
      have HWS : Hid (w.heap.size ≤ wr.heap.size) := Lib.hid HB.out.size
      by_cases h5 : t.length ≤ 5
      · have hgt : ¬ (5 : Int) < (n : Int) - (P : Int) := by omega
        have hPi : (P : Int) ≤ 200000 := by omega
        clear hm h6 hg hok hb hP hP2 hDt hnP h5 hil hlt hrw HM H6 HG HOK
        go_wp2_with fail
        first | go_ret2 | go_ret
        exact HYE.out _ (Below.refl _ _)
      · obtain ⟨m, a1, b1, c1, d1, t1, ht1⟩ := five (l := t) (by omega)
        obtain ⟨D, hD⟩ : ∃ D, D = bytesOf rs ++ t := ⟨_, rfl⟩
        rw [← hD] at hrw hDt
        have hDn : D.length = n := by rw [hD]; exact HN.out
        obtain ⟨_, e, _, hcell⟩ := hrw (by intro e; rw [e] at hDn; simp at hDn; omega)
        injection e with e
        subst e
        have ha1 : D[P + 1]? = some a1 := by rw [← List.getElem?_drop, hDt, ht1]; rfl
        have ha2 : D[P + 2]? = some b1 := by rw [← List.getElem?_drop, hDt, ht1]; rfl
        have k1 := hcell _ _ ha1
        have k2 := hcell _ _ ha2
        rw [add_plain] at k1 k2
        obtain ⟨x, hx⟩ : ∃ x, x = a1.toNat := ⟨_, rfl⟩
        obtain ⟨y, hy⟩ : ∃ y, y = b1.toNat := ⟨_, rfl⟩
        have hxl : x < 256 := by rw [hx]; exact byte_lt a1
        have hyl : y < 256 := by rw [hy]; exact byte_lt b1
        rw [← hx] at k1
        rw [← hy] at k2
        obtain ⟨N, hN⟩ : ∃ N, N = 256 * x + y + 1 := ⟨_, rfl⟩
        have hNi : (256 : Int) * (x : Int) + (y : Int) + 1 = (N : Int) := by omega
        have hN1 : (1 : Int) ≤ (N : Int) := by omega
        have hN3 : (N : Int) ≤ 65536 := by omega
        have hx1 : (P : Int) + 1 < (n : Int) := by omega
        have hx2 : (P : Int) + 2 < (n : Int) := by omega
        have hPi : (P : Int) ≤ 200000 := by omega
        have hx1n : P + 1 < n := by omega
        have hx2n : P + 2 < n := by omega
        have hgt2 : (5 : Int) < (n : Int) - (P : Int) := by omega
        have HTL : Hid (n = P + t.length) := Lib.hid hnP
        have HDT := Lib.hid hDt
        have HRW := Lib.hid hrw
        clear hm h6 hg hok hb hP hP2 hDt hnP h5 hil hlt hrw HM H6 HG HOK hcell hD hDn ha1 ha2 hx hy hN ht1
        have hw5 : IntKind.i64.wrap (256 * (x : Int) + (y : Int) + 1) = (N : Int) := by rw [IntKind.wrap_i64]; omega
        have hw4 : IntKind.i64.wrap (256 * (x : Int) + (y : Int)) = 256 * (x : Int) + (y : Int) := by rw [IntKind.wrap_i64]; omega
        have hw3 : IntKind.i64.wrap (256 * (x : Int)) = 256 * (x : Int) := by rw [IntKind.wrap_i64]; omega
        have hw7 : 0 ≤ (P : Int) + 2 := by omega
        have hw6 : 0 ≤ (P : Int) + 1 := by omega
        have hw9 : ((P : Int) + 2).toNat = P + 2 := by omega
        have hw8 : ((P : Int) + 1).toNat = P + 1 := by omega
        have hw2 : IntKind.i64.wrap ((P : Int) + 2) = (P : Int) + 2 := by rw [IntKind.wrap_i64]; omega
        have hw1 : IntKind.i64.wrap ((P : Int) + 1) = (P : Int) + 1 := by rw [IntKind.wrap_i64]; omega
        go_wp2_with fail
        go_quiet (fail)
        clear hw1 hw2 hw3 hw4 hw5 hw6 hw7 hw8 hw9
        by_cases hbg : 4096 < N
        · have hbig : (4096 : Int) < (N : Int) := by omega
          go_wp2_with fail
          first | go_ret2 | go_ret
          exact HYE.out _ (drewN_below _ _)
        · have hbig : ¬ (4096 : Int) < (N : Int) := by omega
          by_cases hrs1 : (n : Int) - (P : Int) - 5 < (N : Int)
          · clear hbg
            go_wp2_with fail
            first | go_ret2 | go_ret
            exact HYE.out _ (drewN_below _ _)
          · obtain ⟨r, hr⟩ : ∃ r, r = (t.drop 5).take N := ⟨_, rfl⟩
            have hrl : r.length = N := by rw [hr, List.length_take, List.length_drop]; have := HTL.out; omega
            obtain ⟨F, hF⟩ : ∃ F, F = t.take (N + 5) := ⟨_, rfl⟩
            have hFl : F.length = N + 5 := by rw [hF, List.length_take]; have := HTL.out; omega
            have hFn : frameL r ≠ F := by rw [hF]; exact no_frame HT.out (by omega) (by omega) _
            have hfit2 : (P : Int) + 5 + (N : Int) ≤ (cap : Int) := by omega
            have hcp5 : ¬ cap = P + 5 := by omega
            have hcp0 : ¬ cap = P := by omega
            have hpn : (P : Int) + 5 ≤ (P : Int) + 5 + (N : Int) := by omega
            have HRr : Hid (RdB wr w.heap.size (some ⟨g, P + 5, none⟩) r) := Lib.hid (by
              have h9 := (HRW.out.shift (k := P + 5) (by omega)).take N
              rw [← List.drop_drop, HDT.out, ← hr] at h9
              simp only [Nat.zero_add] at h9
              exact h9)
            have HRf : Hid (RdB wr w.heap.size (some ⟨g, P, none⟩) F) := Lib.hid (by
              rcases Nat.eq_zero_or_pos P with h0 | h0
              · have h9 := HRW.out.take (N + 5)
                have h8 := HDT.out
                rw [h0, List.drop_zero] at h8
                rw [h8, ← hF] at h9
                rw [h0]; exact h9
              · have h9 := (HRW.out.shift h0).take (N + 5)
                rw [HDT.out, ← hF] at h9
                simp only [Nat.zero_add] at h9
                exact h9)
            obtain ⟨sf, hsf⟩ := ba_of (frameL r)
            obtain ⟨sd, hsd⟩ := ba_of F
            have hne2 : (sf.toList == sd.toList) = false := by
              rw [ByteArray.toList_eq, ByteArray.toList_eq, hsf, hsd]
              exact beq_false_of_ne hFn
            have HSF := Lib.hid hsf
            have HSD := Lib.hid hsd
            have HRL2 := Lib.hid hrl
            have HFL := Lib.hid hFl
            have HDD : Hid (∀ k, Below wr.heap.size wr (wr.drewN k).drew) := Lib.hid fun k => (drewN_below wr k).trans ((drew_below _).mono (Nat.le_refl _))
            have HF : Hid (∀ W : World, Below wr.heap.size wr W → Calls Try.prog 74 #[.slice (some ⟨g, P + 5, none⟩) N (cap - (P + 5))] W (fun e w' => ∃ v, e = .returned v ∧ OwnB w' wr.heap.size v (frameL r) ∧ Below wr.heap.size wr w')) := Lib.hid fun W hW => by
              have h9 := rframe_any r (some ⟨g, P + 5, none⟩) N (cap - (P + 5)) HRL2.out (by have := HRL2.out; omega) (by have := HRL2.out; omega) W ((HRr.out.below hW HWS.out).more (Nat.le_trans HWS.out hW.size))
              refine h9.mono ?_
              rintro e w' ⟨v, he, ho, hb⟩
              exact ⟨v, he, ho.lower hW.size, hW.trans (hb.mono hW.size)⟩
            have HS0 : Hid (∀ W : World, Below wr.heap.size wr W → (convert 23 9 (.slice (some ⟨g, P, none⟩) (5 + N) (cap - P))).run Try.prog W = .ok (.string sd) W) := Lib.hid fun W hW => conv_rd (HRf.out.below hW HWS.out) (by have := HFL.out; omega) sd HSD.out
            clear hr hrl hF hFl hFn hsf hsd hbg
            go_wp2_with fail
            have hlf : ((P : Int) + 5 + (N : Int) - (P : Int)).toNat = 5 + N := by omega
            have hs3 : 0 ≤ (P : Int) := by omega
            have hs4 : (P : Int) ≤ (P : Int) + 5 + (N : Int) := by omega
            have hs5 : 0 ≤ (P : Int) + 5 + (N : Int) := by omega
            have hs6 : P + 5 + N - P = 5 + N := by omega
            have hs7 : ((P : Int) + 5 + (N : Int)).toNat = P + 5 + N := by omega
            have hs2 : IntKind.i64.wrap ((P : Int) + 5 + (N : Int)) = (P : Int) + 5 + (N : Int) := by rw [IntKind.wrap_i64]; omega
            have hs1 : IntKind.i64.wrap ((P : Int) + 5) = (P : Int) + 5 := by rw [IntKind.wrap_i64]; omega
            have hkd : ∀ k, (convert 23 9 (.slice (some ⟨g, P, none⟩) (5 + N) (cap - P))).run Try.prog (wr.drewN k) = .ok (.string sd) (wr.drewN k) := fun k => HS0.out _ (drewN_below wr k)
            go_region_law
              (first
              | (go_simp; go_at_call 74; refine (HF.out _ (drewN_below wr _)).mono ?_; rintro e w1 ⟨v1, rfl, ho1, hb1⟩
                 have kv := conv_ownS ho1 sf HSF.out
                 have HB1 := Lib.hid hb1
                 have kd1 := HS0.out _ hb1
                 clear ho1 hb1)
              | fail)
            all_goals
              clear hs1 hs2 hs3 hs4 hs5 hs6 hs7
              go_wp2_with fail
              first | go_ret2 | go_ret
              exact HYE.out _ HB1.out
end Go.Proofs.Ytgdofnbnahpedaa
