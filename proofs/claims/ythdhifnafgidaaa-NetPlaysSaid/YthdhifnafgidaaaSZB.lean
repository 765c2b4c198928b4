/- NetPlays: the law at a node. -/
import Derived.Test.YthdhifnafgidaaaSZ
namespace Go.Proofs.Ythdhifnafgidaaa
open Go.RowKit Go.Maps

set_option maxRecDepth 100000 in
set_option maxHeartbeats 32000000 in
theorem netPlays_pos (l : List ActN) (A : Option Addr) (cap : Nat) (node : Int) (hnode : ¬ node < 0) (w : World) (hm : l.length ≤ maxLen) (hr : RdActs w w.heap.size A l) (hok : ∀ x ∈ l, x.ok w w.heap.size) :
    Calls Try.prog 3 #[.slice A l.length cap, .int .i64 node] w (Ans (.bool true) w) := by
  obtain ⟨n, hn⟩ : ∃ n, l.length = n := ⟨_, rfl⟩
  rw [hn] at hm ⊢
  have hni : (n : Int) ≤ 9223372036854775807 := by unfold maxLen at hm; omega
  have HND := Lib.hid hnode
  clear hnode
  have HR := Lib.hid hr
  have HN0 := Lib.hid hn
  have HOK := Lib.hid hok
  have HST : Hid (PpL w n (.int .i64 0) ((w.alloc (netO none 0 0)).alloc rfO)) := Lib.hid ⟨0, 0, 0, 0, 0, none, [], none, [], rfl, Nat.zero_le _, by omega, Nat.le_refl _, PlW.start w⟩
  unfold netO rfO at HST
  have hne : ∀ z : Int, (z != z) = false := fun z => by simp
  have heq : ∀ z : Int, (z == z) = true := fun z => by simp
  clear hr hn hm hok
  go_enter Try.func3, Try.ntmps3
  go_wp2_with (go_at_call 9; refine (new_any _).mono ?_; unfold netO; rintro e w1 ⟨rfl, rfl⟩)
  go_loopw [7] (fun v7 wr => PpL w n v7 wr) (fun v7 _ => n - (intOf v7).toNat)
  case atStart => exact HST.out
  case round =>
    obtain ⟨i, s, t, lo, capR, m, L, AR, ws, rfl, hi1, hi2, hs1, hW⟩ := hrel
    have hii : (i : Int) ≤ 80 := by omega
    by_cases hx : i < n ∧ i < 80
    · obtain ⟨h1, h2⟩ := hx
      have h1i : (i : Int) < (n : Int) := by omega
      have h2i : (i : Int) < 80 := by omega
      obtain ⟨x, hx⟩ : ∃ x, l[i]? = some x := ⟨_, List.getElem?_eq_getElem (by rw [HN0.out]; exact h1)⟩
      have hxo := HOK.out x (List.mem_of_getElem? hx)
      obtain ⟨b, o, hA, hcs⟩ := HR.out.at_ hx
      subst hA
      obtain ⟨q0, q1, q2, q3, q4, q5, q6⟩ := hcs wr fun k hk => hW.net.bel.block k hk
      have HRD : Hid (∀ W, Below w.heap.size w W → RdI W W.heap.size x.a.A x.a.l.ns) := Lib.hid fun W hb => (hxo.a.rd.below hb (Nat.le_refl _)).more hb.size
      have HX64 := Lib.hid hxo.n
      obtain ⟨xk, xn, ⟨⟨lk, lf, lt, lx, lns⟩, xA, xcap⟩⟩ := x
      have hlen : (lns.length : Int) ≤ 9223372036854775807 := by have := hxo.a.cap; have := hxo.a.most; simp only at *; unfold maxLen at *; omega
      simp only at q0 q1 q2 q3 q4 q5 q6 HRD HX64
      obtain ⟨N, hNN⟩ : ∃ N, lns.length = N := ⟨_, rfl⟩
      have HNN := Lib.hid hNN
      rw [hNN] at q6 hlen
      have HW1 := Lib.hid (hW.below (alloc_below wr (.cells #[.int .i64 xk, .int .i64 xn, .int .i64 lk, .int .i64 lf, .int .i64 lt, .int .i64 lx, .slice xA N xcap] 34)))
      have HBX := Lib.hid (heap_alloc_new wr (.cells #[.int .i64 xk, .int .i64 xn, .int .i64 lk, .int .i64 lf, .int .i64 lt, .int .i64 lx, .slice xA N xcap] 34))
      have HBI := Lib.hid (box7 HBX.out).1
      have HBXD : Hid ((wr.alloc (.cells #[.int .i64 xk, .int .i64 xn, .int .i64 lk, .int .i64 lf, .int .i64 lt, .int .i64 lx, .slice xA N xcap] 34)).drew.heap[wr.heap.size]? = _) := HBX
      have HBID := Lib.hid (box7 HBXD.out).1
      have HZ : Hid (∀ (s' t' lo' cap' : Nat) m' L' A' ws' v7 W, s' ≤ i + 1 → v7 = .int .i64 ((i + 1 : Nat) : Int) → PlW w W w.heap.size (w.heap.size + 1) m' L' s' t' A' cap' ws' lo' → PpL w n v7 W) := Lib.hid fun s' t' lo' cap' m' L' A' ws' v7 W h1' h4' h5' => ⟨i + 1, s', t', lo', cap', m', L', A', ws', h4', h1, h2, h1', h5'⟩
      have hs80 : s ≤ 80 := by omega
      clear hx hxo hcs hW hNN
      by_cases hs : (80 : Int) < (N : Int)
      · have HSX : Hid (s ≤ i + 1) := Lib.hid (by omega)
        have HF := HW1
        clear hi1 hi2 h1 h2
        go_wp2_with fail
        go_roundw
        case rel => first | exact HZ.out _ _ _ _ _ _ _ _ _ _ HSX.out (by go_num) HF.out | ((repeat apply Exists.intro); exact ⟨HZ.out _ _ _ _ _ _ _ _ _ _ HSX.out (by go_num) HF.out, rfl⟩)
        case measure => simp [intOf]; omega
      · clear hi1 hi2
        go_upto_block 2 with fail
        go_cut [9] (fun s9 wx => s9 = .bool true ∧ ∃ (s' t' lo' cap' : Nat) (m' : Option Nat) (L' : List En) (A' : Option Addr) (ws' : List Wy), s' ≤ i + 1 ∧ PlW w wx w.heap.size (w.heap.size + 1) m' L' s' t' A' cap' ws' lo')
        case first =>
          by_cases e1 : xk = 1
          · subst e1
            cases hR : Ltr.right ⟨lk, lf, lt, lx, lns⟩
            · as_aux_lemma =>
                have HSX : Hid (s ≤ i + 1) := Lib.hid (by omega)
                have HRR := Lib.hid hR
                clear hR
                have hN80 : N ≤ 80 := by omega
                have hsz0 : (wr.alloc (.cells #[.int .i64 1, .int .i64 xn, .int .i64 lk, .int .i64 lf, .int .i64 lt, .int .i64 lx, .slice xA N xcap] 34)).heap.size = wr.heap.size + 1 := by simp
                have hqb := heap_alloc_new (wr.alloc (.cells #[.int .i64 1, .int .i64 xn, .int .i64 lk, .int .i64 lf, .int .i64 lt, .int .i64 lx, .slice xA N xcap] 34)) (.cells #[.int .i64 lk, .int .i64 lf, .int .i64 lt, .int .i64 lx, .slice xA N xcap] 32)
                rw [hsz0] at hqb
                have HQB := Lib.hid hqb
                have HSZ := Lib.hid hsz0
                have HB2 : Hid (Below w.heap.size w (wr.alloc (.cells #[.int .i64 1, .int .i64 xn, .int .i64 lk, .int .i64 lf, .int .i64 lt, .int .i64 lx, .slice xA N xcap] 34))) := Lib.hid HW1.out.net.bel
                clear hqb hsz0
                go_upto_region 15 with (first
                  | (refine wpList_appI (xs := []) (ys := lns) rfl _ _ 30 rfl Try.underlying30 rfl (OwnI.empty_at _ (by simp)) rfl HNN.out (HRD.out _ (HB2.out.trans ((alloc2_below (wr.alloc (.cells #[.int .i64 1, .int .i64 xn, .int .i64 lk, .int .i64 lf, .int .i64 lt, .int .i64 lx, .slice xA N xcap] 34)) _ _).mono HB2.out.size))) (by have := HNN.out; simp; omega) (by simp) ?_
                     intro v4 w4 ho4 hg4
                     rw [List.nil_append] at ho4
                     obtain ⟨A3, c3, hv4, hc3⟩ := ho4.2
                     rw [HNN.out] at hv4
                     subst hv4
                     have HO4 := Lib.hid ho4
                     have HG4 := Lib.hid hg4
                     have hq2 := ((alloc_below ((wr.alloc (.cells #[.int .i64 1, .int .i64 xn, .int .i64 lk, .int .i64 lf, .int .i64 lt, .int .i64 lx, .slice xA N xcap] 34)).alloc (.cells #[.int .i64 lk, .int .i64 lf, .int .i64 lt, .int .i64 lx, .slice xA N xcap] 32)) (.cells #[] 3)).block (wr.heap.size + 1) (by simp)).trans HQB.out
                     have hq4 := (hg4.by_.block (wr.heap.size + 1) (Array.getElem?_eq_some_iff.1 hq2).1 (fun e => by injection e with e; simp at e)).trans hq2
                     have HQ4 := Lib.hid hq4
                     obtain ⟨o0, o1, o2, o3, o4⟩ := box5 hq4
                     have z4 := frozen_of hq4 4
                     clear ho4 hg4 hc3 hq2 hq4))
                obtain ⟨W3, hW3⟩ : ∃ W3, Hid (W3 = w4.setCell ⟨wr.heap.size + 1, 4, none⟩ (.slice A3 N c3)) := ⟨_, Lib.hid rfl⟩
                rw [← hW3.out]
                have hqlt := (Array.getElem?_eq_some_iff.1 HQ4.out).1
                have hB24 : Below (wr.alloc (.cells #[.int .i64 1, .int .i64 xn, .int .i64 lk, .int .i64 lf, .int .i64 lt, .int .i64 lx, .slice xA N xcap] 34)).heap.size (wr.alloc (.cells #[.int .i64 1, .int .i64 xn, .int .i64 lk, .int .i64 lf, .int .i64 lt, .int .i64 lx, .slice xA N xcap] 34)) w4 := (alloc2_below (wr.alloc (.cells #[.int .i64 1, .int .i64 xn, .int .i64 lk, .int .i64 lf, .int .i64 lt, .int .i64 lx, .slice xA N xcap] 34)) _ _).trans (grown_below' HG4.out.by_ (by simp) (by simp))
                have hB23 : Below (wr.alloc (.cells #[.int .i64 1, .int .i64 xn, .int .i64 lk, .int .i64 lf, .int .i64 lt, .int .i64 lx, .slice xA N xcap] 34)).heap.size (wr.alloc (.cells #[.int .i64 1, .int .i64 xn, .int .i64 lk, .int .i64 lf, .int .i64 lt, .int .i64 lx, .slice xA N xcap] 34)) W3 := by rw [hW3.out]; exact hB24.setCell (by simp) _
                have hq3 : W3.heap[wr.heap.size + 1]? = some (.cells #[.int .i64 lk, .int .i64 lf, .int .i64 lt, .int .i64 lx, .slice A3 N c3] 32 (0, 0)) := by rw [hW3.out]; exact own5_set HQ4.out _
                have ho3 : OwnI W3 (wr.heap.size + 1 + 1) (.slice A3 N c3) lns := by
                  have h1 := HO4.out.ge
                  rw [hW3.out]
                  refine (HO4.out.kept (grown_set w4 (wr.heap.size + 1) 4 _) (fun e => by have h2 := h1 _ e; first | omega | (simp at h2; omega) | (simp at h2))).low (by simp)
                have HP3 := Lib.hid (HW1.out.below hB23)
                have hx3 := blk_below HBX.out hB23
                have HX3 := Lib.hid hx3
                have HQ3 := Lib.hid hq3
                obtain ⟨z0, z1, z2, z3, z4, z5, z6⟩ := box7 hx3
                obtain ⟨y0, y1, y2, y3, y4⟩ := box5 hq3
                have HRX3 : Hid (RxN w W3 (w.heap.size + 1) AR ws (wr.heap.size + 1) A3 N c3) := Lib.hid (RxN.start HW1.out HNN.out ho3 (by rw [HSZ.out]; omega) (by omega))
                have HRD3 := Lib.hid ho3.rd
                have HRA3 := Lib.hid (HRD.out W3 (HB2.out.trans (hB23.mono HB2.out.size)))
                clear hqlt hB24 hB23 hq3 ho3 hx3 o0 o1 o2 o3 o4
                have HZ1 : Hid (∀ {W m' L' s' t' A' cap' ws' lo'}, PlW w W w.heap.size (w.heap.size + 1) m' L' s' t' A' cap' ws' lo' → RxN w W (w.heap.size + 1) A' ws' (wr.heap.size + 1) A3 N c3 → W.heap[wr.heap.size + 1]? = some (.cells #[.int .i64 lk, .int .i64 lf, .int .i64 lt, .int .i64 lx, .slice A3 N c3] 32 (0, 0)) → XnN w W w.heap.size (w.heap.size + 1) m' L' s' t' A' cap' ws' lo' (wr.heap.size + 1) A3 N c3 (.cells #[.int .i64 lk, .int .i64 lf, .int .i64 lt, .int .i64 lx, .slice A3 N c3] 32 (0, 0)) (.int .i64 0)) := Lib.hid fun h1 h2 h3 => ⟨0, rfl, Nat.zero_le _, h1, h2, h3⟩
                go_wp2_with (first
                  | (go_at_call 10; refine (send_wrong ⟨lk, lf, lt, lx, lns⟩ HRR.out A3 N c3 HNN.out (by omega) _ HRD3.out).mono ?_; rintro e w5 ⟨rfl, hb⟩
                     have hx5 := blk_below HX3.out hb
                     have hq5 := blk_below HQ3.out hb
                     have HX5 := Lib.hid hx5
                     have HQ5 := Lib.hid hq5
                     clear z0 z1 z2 z3 z4 z5 z6 y0 y1 y2 y3 y4
                     obtain ⟨z0, z1, z2, z3, z4, z5, z6⟩ := box7 hx5
                     have HP5 := Lib.hid (HP3.out.below hb)
                     have HRX5 := Lib.hid (HRX3.out.only (Q := fun _ => False) (Only.of_below hb) fun _ h => h.elim)
                     have HRA5 := Lib.hid ((HRA3.out.below hb (Nat.le_refl _)).more hb.size)
                     clear hb hx5 hq5)
                  | (go_at_call 11; refine (rsend_wrong ⟨lk, lf, lt, lx, lns⟩ HRR.out xA N xcap HNN.out (by omega) _ HRA5.out).mono ?_; rintro e w6 ⟨rfl, hb⟩
                     have HQE := Lib.hid (blk_below HQ5.out hb)
                     have HE := Lib.hid (HP5.out.below hb)
                     have HRXE := Lib.hid (HRX5.out.only (Q := fun _ => False) (Only.of_below hb) fun _ h => h.elim)
                     clear hb z0 z1 z2 z3 z4 z5 z6))
                go_loopw [15] (fun v15 W => XnN w W w.heap.size (w.heap.size + 1) m L s t AR capR ws lo (wr.heap.size + 1) A3 N c3 (.cells #[.int .i64 lk, .int .i64 lf, .int .i64 lt, .int .i64 lx, .slice A3 N c3] 32 (0, 0)) v15) (fun v15 _ => N - (intOf v15).toNat)
                case atStart => exact HZ1.out HE.out HRXE.out HQE.out
                case round =>
                  obtain ⟨k, rfl, hk, hP, hx, hq⟩ := hrel
                  obtain ⟨b0, b1, b2, b3, b4⟩ := box5 hq
                  by_cases hlt : k < N
                  · have hlti : (k : Int) < (N : Int) := by omega
                    have hk0 : 0 ≤ (k : Int) := by omega
                    obtain ⟨g, hA, ⟨zz, hzz⟩, hfz, hnc, hst⟩ := XnN.step hP hx hq hlt
                    subst hA
                    have HST9 := Lib.hid hst
                    have hkc : (N : Int) ≤ (c3 : Int) := by omega
                    clear hk hP hx hq hst hlt hnc
                    go_wp2_with fail
                    go_roundw
                    case rel => first | exact HST9.out _ (by go_num) | ((repeat apply Exists.intro); exact ⟨HST9.out _ (by go_num), rfl⟩)
                    case measure => simp [intOf]; omega
                  · have hlti : ¬ (k : Int) < (N : Int) := by omega
                    have HP9 := Lib.hid hP
                    clear hk hP hx hq hlt
                    go_wp2_with fail
                    go_meet
                    exact ⟨rfl, _, _, _, _, _, _, _, _, HSX.out, HP9.out⟩
            · as_aux_lemma =>
                have HSX : Hid (s + 1 ≤ i + 1) := Lib.hid (by omega)
                have HRR := Lib.hid hR
                clear hR
                have hN80 : N ≤ 80 := by omega
                have hsz0 : (wr.alloc (.cells #[.int .i64 1, .int .i64 xn, .int .i64 lk, .int .i64 lf, .int .i64 lt, .int .i64 lx, .slice xA N xcap] 34)).heap.size = wr.heap.size + 1 := by simp
                have hqb := heap_alloc_new (wr.alloc (.cells #[.int .i64 1, .int .i64 xn, .int .i64 lk, .int .i64 lf, .int .i64 lt, .int .i64 lx, .slice xA N xcap] 34)) (.cells #[.int .i64 lk, .int .i64 lf, .int .i64 lt, .int .i64 lx, .slice xA N xcap] 32)
                rw [hsz0] at hqb
                have HQB := Lib.hid hqb
                have HSZ := Lib.hid hsz0
                have HB2 : Hid (Below w.heap.size w (wr.alloc (.cells #[.int .i64 1, .int .i64 xn, .int .i64 lk, .int .i64 lf, .int .i64 lt, .int .i64 lx, .slice xA N xcap] 34))) := Lib.hid HW1.out.net.bel
                clear hqb hsz0
                go_upto_region 15 with (first
                  | (refine wpList_appI (xs := []) (ys := lns) rfl _ _ 30 rfl Try.underlying30 rfl (OwnI.empty_at _ (by simp)) rfl HNN.out (HRD.out _ (HB2.out.trans ((alloc2_below (wr.alloc (.cells #[.int .i64 1, .int .i64 xn, .int .i64 lk, .int .i64 lf, .int .i64 lt, .int .i64 lx, .slice xA N xcap] 34)) _ _).mono HB2.out.size))) (by have := HNN.out; simp; omega) (by simp) ?_
                     intro v4 w4 ho4 hg4
                     rw [List.nil_append] at ho4
                     obtain ⟨A3, c3, hv4, hc3⟩ := ho4.2
                     rw [HNN.out] at hv4
                     subst hv4
                     have HO4 := Lib.hid ho4
                     have HG4 := Lib.hid hg4
                     have hq2 := ((alloc_below ((wr.alloc (.cells #[.int .i64 1, .int .i64 xn, .int .i64 lk, .int .i64 lf, .int .i64 lt, .int .i64 lx, .slice xA N xcap] 34)).alloc (.cells #[.int .i64 lk, .int .i64 lf, .int .i64 lt, .int .i64 lx, .slice xA N xcap] 32)) (.cells #[] 3)).block (wr.heap.size + 1) (by simp)).trans HQB.out
                     have hq4 := (hg4.by_.block (wr.heap.size + 1) (Array.getElem?_eq_some_iff.1 hq2).1 (fun e => by injection e with e; simp at e)).trans hq2
                     have HQ4 := Lib.hid hq4
                     obtain ⟨o0, o1, o2, o3, o4⟩ := box5 hq4
                     have z4 := frozen_of hq4 4
                     clear ho4 hg4 hc3 hq2 hq4))
                obtain ⟨W3, hW3⟩ : ∃ W3, Hid (W3 = w4.setCell ⟨wr.heap.size + 1, 4, none⟩ (.slice A3 N c3)) := ⟨_, Lib.hid rfl⟩
                rw [← hW3.out]
                have hqlt := (Array.getElem?_eq_some_iff.1 HQ4.out).1
                have hB24 : Below (wr.alloc (.cells #[.int .i64 1, .int .i64 xn, .int .i64 lk, .int .i64 lf, .int .i64 lt, .int .i64 lx, .slice xA N xcap] 34)).heap.size (wr.alloc (.cells #[.int .i64 1, .int .i64 xn, .int .i64 lk, .int .i64 lf, .int .i64 lt, .int .i64 lx, .slice xA N xcap] 34)) w4 := (alloc2_below (wr.alloc (.cells #[.int .i64 1, .int .i64 xn, .int .i64 lk, .int .i64 lf, .int .i64 lt, .int .i64 lx, .slice xA N xcap] 34)) _ _).trans (grown_below' HG4.out.by_ (by simp) (by simp))
                have hB23 : Below (wr.alloc (.cells #[.int .i64 1, .int .i64 xn, .int .i64 lk, .int .i64 lf, .int .i64 lt, .int .i64 lx, .slice xA N xcap] 34)).heap.size (wr.alloc (.cells #[.int .i64 1, .int .i64 xn, .int .i64 lk, .int .i64 lf, .int .i64 lt, .int .i64 lx, .slice xA N xcap] 34)) W3 := by rw [hW3.out]; exact hB24.setCell (by simp) _
                have hq3 : W3.heap[wr.heap.size + 1]? = some (.cells #[.int .i64 lk, .int .i64 lf, .int .i64 lt, .int .i64 lx, .slice A3 N c3] 32 (0, 0)) := by rw [hW3.out]; exact own5_set HQ4.out _
                have ho3 : OwnI W3 (wr.heap.size + 1 + 1) (.slice A3 N c3) lns := by
                  have h1 := HO4.out.ge
                  rw [hW3.out]
                  refine (HO4.out.kept (grown_set w4 (wr.heap.size + 1) 4 _) (fun e => by have h2 := h1 _ e; first | omega | (simp at h2; omega) | (simp at h2))).low (by simp)
                have HP3 := Lib.hid (HW1.out.below hB23)
                have hx3 := blk_below HBX.out hB23
                have HX3 := Lib.hid hx3
                have HQ3 := Lib.hid hq3
                obtain ⟨z0, z1, z2, z3, z4, z5, z6⟩ := box7 hx3
                obtain ⟨y0, y1, y2, y3, y4⟩ := box5 hq3
                have HRX3 : Hid (RxN w W3 (w.heap.size + 1) AR ws (wr.heap.size + 1) A3 N c3) := Lib.hid (RxN.start HW1.out HNN.out ho3 (by rw [HSZ.out]; omega) (by omega))
                have HRD3 := Lib.hid ho3.rd
                have HRA3 := Lib.hid (HRD.out W3 (HB2.out.trans (hB23.mono HB2.out.size)))
                clear hqlt hB24 hB23 hq3 ho3 hx3 o0 o1 o2 o3 o4
                have HZ1 : Hid (∀ {W m' L' s' t' A' cap' ws' lo'}, PlW w W w.heap.size (w.heap.size + 1) m' L' s' t' A' cap' ws' lo' → RxN w W (w.heap.size + 1) A' ws' (wr.heap.size + 1) A3 N c3 → W.heap[wr.heap.size + 1]? = some (.cells #[.int .i64 lk, .int .i64 lf, .int .i64 lt, .int .i64 lx, .slice A3 N c3] 32 (0, 0)) → XnN w W w.heap.size (w.heap.size + 1) m' L' s' t' A' cap' ws' lo' (wr.heap.size + 1) A3 N c3 (.cells #[.int .i64 lk, .int .i64 lf, .int .i64 lt, .int .i64 lx, .slice A3 N c3] 32 (0, 0)) (.int .i64 0)) := Lib.hid fun h1 h2 h3 => ⟨0, rfl, Nat.zero_le _, h1, h2, h3⟩
                go_wp2_with (first
                  | (go_at_call 10; refine (send_yes HP3.out.net.net (by have := HP3.out.net.net.sum; omega) (by omega) ⟨lk, lf, lt, lx, lns⟩ HRR.out A3 N c3 HNN.out (by omega) HRD3.out).mono ?_; rintro e w5 ⟨rfl, hp⟩
                     obtain ⟨m2, g2, c2, h2, hO2, hm2⟩ := id hp
                     have hrf2 := rf_keep HP3.out.net.net HP3.out.rf hO2
                     have hx5 := blk_keep HX3.out z0 hO2 HP3.out.net.net.notI
                     have hq5 := blk_keep HQ3.out y0 hO2 HP3.out.net.net.notI
                     have HX5 := Lib.hid hx5
                     have HQ5 := Lib.hid hq5
                     have HRX5 := Lib.hid (HRX3.out.only hO2 HP3.out.net.net.notI)
                     have HRA5 : Hid (RdI w5 w5.heap.size xA lns) := Lib.hid (HRD.out _ (HP3.out.net.bel.trans (hO2.below HP3.out.net.bel.size HP3.out.net.nk)))
                     have HN5 : Hid (NetW w w5 w.heap.size m2 (L ++ [⟨s, ⟨lk, lf, lt, lx, lns⟩, g2, c2⟩]) (s + 1) t) := Lib.hid ⟨h2, HP3.out.net.bel.trans (hO2.below HP3.out.net.bel.size HP3.out.net.nk), HP3.out.net.gp, fun q hq => by
                       rcases hm2 with h3 | ⟨_, q', h4, h5⟩
                       · exact HP3.out.net.gm q (by rw [← h3]; exact hq)
                       · rw [h4] at hq
                         injection hq with hq
                         have := HP3.out.net.bel.size
                         omega⟩
                     have HR5 := Lib.hid hrf2
                     have HLT : Hid (ws.length < 900 ∧ s < 900) := Lib.hid ⟨by have := HP3.out.sum; omega, by omega⟩
                     clear z0 z1 z2 z3 z4 z5 z6 y0 y1 y2 y3 y4
                     obtain ⟨z0, z1, z2, z3, z4, z5, z6⟩ := box7 hx5
                     clear hp h2 hO2 hm2 hrf2 hx5 hq5)
                  | (go_at_call 11; have _t := HN5; refine (hn_send HNN.out (rsend_yes HR5.out HLT.out.1 HLT.out.2 ⟨lk, lf, lt, lx, lns⟩ HRR.out xA xcap (by have := HNN.out; simp only; omega) HRA5.out)).mono ?_; rintro e w6 ⟨rfl, hp⟩
                     obtain ⟨A9, cap9, A8, c8, hr9, hO9, hA9, hA8⟩ := hp
                     have hnb : ∀ k, k = w.heap.size + 1 → NotI _ k := fun k hk => by rw [hk]; exact HR5.out.notI
                     have HQE := Lib.hid (blk_keep HQ5.out (box5 HQ5.out).1 hO9 hnb)
                     have HE : Hid (PlW w w6 w.heap.size (w.heap.size + 1) m2 (L ++ [⟨s, ⟨lk, lf, lt, lx, lns⟩, g2, c2⟩]) (s + 1) t A9 cap9 (ws ++ [⟨s, ⟨⟨lk, lf, lt, lx, lns⟩, A8, c8⟩⟩]) lo) := Lib.hid ⟨net_keep HN5.out HR5.out hO9 (by omega), hr9, HW1.out.mt.snoc s ⟨lk, lf, lt, lx, lns⟩ g2 c2 A8 c8, by have := HW1.out.sum; rw [List.length_append, List.length_cons, List.length_nil]; omega, by omega⟩
                     have HRXE := Lib.hid (HRX5.out.send (s := s) (c9 := c8) (l := ⟨lk, lf, lt, lx, lns⟩) hO9 hA9 hA8)
                     clear hr9 hO9 hA9 hA8 hnb HN5 HR5 z0 z1 z2 z3 z4 z5 z6 _t))
                go_loopw [15] (fun v15 W => XnN w W w.heap.size (w.heap.size + 1) m2 (L ++ [⟨s, ⟨lk, lf, lt, lx, lns⟩, g2, c2⟩]) (s + 1) t A9 cap9 (ws ++ [⟨s, ⟨⟨lk, lf, lt, lx, lns⟩, A8, c8⟩⟩]) lo (wr.heap.size + 1) A3 N c3 (.cells #[.int .i64 lk, .int .i64 lf, .int .i64 lt, .int .i64 lx, .slice A3 N c3] 32 (0, 0)) v15) (fun v15 _ => N - (intOf v15).toNat)
                case atStart => exact HZ1.out HE.out HRXE.out HQE.out
                case round =>
                  obtain ⟨k, rfl, hk, hP, hx, hq⟩ := hrel
                  obtain ⟨b0, b1, b2, b3, b4⟩ := box5 hq
                  by_cases hlt : k < N
                  · have hlti : (k : Int) < (N : Int) := by omega
                    have hk0 : 0 ≤ (k : Int) := by omega
                    obtain ⟨g, hA, ⟨zz, hzz⟩, hfz, hnc, hst⟩ := XnN.step hP hx hq hlt
                    subst hA
                    have HST9 := Lib.hid hst
                    have hkc : (N : Int) ≤ (c3 : Int) := by omega
                    clear hk hP hx hq hst hlt hnc
                    go_wp2_with fail
                    go_roundw
                    case rel => first | exact HST9.out _ (by go_num) | ((repeat apply Exists.intro); exact ⟨HST9.out _ (by go_num), rfl⟩)
                    case measure => simp [intOf]; omega
                  · have hlti : ¬ (k : Int) < (N : Int) := by omega
                    have HP9 := Lib.hid hP
                    clear hk hP hx hq hlt
                    go_wp2_with fail
                    go_meet
                    exact ⟨rfl, _, _, _, _, _, _, _, _, HSX.out, HP9.out⟩
          · by_cases e2 : xk = 2
            · subst e2
              cases hf : findN L xn with
              | none =>
                as_aux_lemma =>
                  have HSX : Hid (s ≤ i + 1) := Lib.hid (by omega)
                  have hx64 : i64ok xn := HX64.out
                  have hidx := (HW1.out.mt.find HW1.out.net.net.ups).1 hf
                  have HIDX := Lib.hid hidx
                  have HFN := Lib.hid hf
                  have HFD := Lib.hid (rfind_any HW1.out.rf xn)
                  rw [idxV_none hidx] at HFD
                  have HPZ := Lib.hid (HW1.out.below (alloc_below (wr.alloc (.cells #[.int .i64 2, .int .i64 xn, .int .i64 lk, .int .i64 lf, .int .i64 lt, .int .i64 lx, .slice xA N xcap] 34)) (.cells #[.int .i64 0, .int .i64 0, .int .i64 0, .int .i64 0, .slice none 0 0] 32)))
                  have hsz0 : (wr.alloc (.cells #[.int .i64 2, .int .i64 xn, .int .i64 lk, .int .i64 lf, .int .i64 lt, .int .i64 lx, .slice xA N xcap] 34)).heap.size = wr.heap.size + 1 := by simp
                  have HBX2 := Lib.hid (blk_below HBX.out (alloc_below _ (.cells #[.int .i64 0, .int .i64 0, .int .i64 0, .int .i64 0, .slice none 0 0] 32)))
                  have HBZ2 := Lib.hid (heap_alloc_new (wr.alloc (.cells #[.int .i64 2, .int .i64 xn, .int .i64 lk, .int .i64 lf, .int .i64 lt, .int .i64 lx, .slice xA N xcap] 34)) (.cells #[.int .i64 0, .int .i64 0, .int .i64 0, .int .i64 0, .slice none 0 0] 32))
                  rw [hsz0] at HBZ2
                  have HLK := Lib.hid (lookN_no HPZ.out.net.net hx64 hf)
                  have HSM : Hid (∀ W, Calls Try.prog 14 #[.agg #[.int .i64 0, .int .i64 0, .int .i64 0, .int .i64 0, .slice none 0 0], .agg #[.int .i64 0, .int .i64 0, .int .i64 0, .int .i64 0, .slice none 0 0]] W (Ans (.bool true) W)) := Lib.hid fun W => by
                    have h := refSameL_any ⟨0, 0, 0, 0, []⟩ ⟨0, 0, 0, 0, []⟩ none none 0 0 0 0 rfl rfl (by omega) (by omega) W (RdI.nil _ _ _) (RdI.nil _ _ _)
                    rwa [sameL_self] at h
                  unfold zeroL at HLK
                  clear hf hidx hsz0
                  go_wp2_with (first
                    | (go_at_call 12; refine HFD.out.mono ?_; rintro e wf ⟨rfl, rfl⟩)
                    | (go_at_call 13; refine HLK.out.mono ?_; rintro e w3 ⟨rfl, hb⟩
                       have hz3 := blk_below HBX2.out hb
                       have hy3 := blk_below HBZ2.out hb
                       have HBX3 := Lib.hid (blk_below hz3 (alloc_below w3 (.cells #[.int .i64 0, .int .i64 0, .int .i64 0, .int .i64 0, .slice none 0 0] 32)))
                       have HBZ3 := Lib.hid (blk_below hy3 (alloc_below w3 (.cells #[.int .i64 0, .int .i64 0, .int .i64 0, .int .i64 0, .slice none 0 0] 32)))
                       obtain ⟨z0, z1, z2, z3, z4, z5, z6⟩ := box7 HBX3.out
                       obtain ⟨y0, y1, y2, y3, y4⟩ := box5 HBZ3.out
                       have HL := Lib.hid ((HPZ.out.below hb).below (alloc_below w3 (.cells #[.int .i64 0, .int .i64 0, .int .i64 0, .int .i64 0, .slice none 0 0] 32)))
                       clear hb HPZ hz3 hy3)
                    | (go_at_call 14; have _t := HL; refine (HSM.out _).mono ?_; rintro e w5 ⟨rfl, hb⟩
                       have hz3 := blk_below HBX3.out hb
                       have hy3 := blk_below HBZ3.out hb
                       clear z0 z1 z2 z3 z4 z5 z6 y0 y1 y2 y3 y4
                       obtain ⟨z0, z1, z2, z3, z4, z5, z6⟩ := box7 hz3
                       obtain ⟨y0, y1, y2, y3, y4⟩ := box5 hy3
                       have HBX4 := Lib.hid hz3
                       have HBZ4 := Lib.hid hy3
                       have HS5 := Lib.hid (HL.out.below hb)
                       clear hb HL hz3 hy3 _t)
                    | (go_at_call 15; have _t := HS5; refine (take_no HS5.out.net.net HX64.out HFN.out).mono ?_; unfold zeroL; rintro e w6 ⟨rfl, hb⟩
                       have hz3 := blk_below HBX4.out hb
                       have hy3 := blk_below HBZ4.out hb
                       clear z0 z1 z2 z3 z4 z5 z6 y0 y1 y2 y3 y4
                       have HBX5 := Lib.hid (blk_below hz3 (alloc_below w6 (.cells #[.int .i64 0, .int .i64 0, .int .i64 0, .int .i64 0, .slice none 0 0] 32)))
                       have HBY5 := Lib.hid (blk_below hy3 (alloc_below w6 (.cells #[.int .i64 0, .int .i64 0, .int .i64 0, .int .i64 0, .slice none 0 0] 32)))
                       have HBZ5 := Lib.hid (heap_alloc_new w6 (.cells #[.int .i64 0, .int .i64 0, .int .i64 0, .int .i64 0, .slice none 0 0] 32))
                       obtain ⟨z0, z1, z2, z3, z4, z5, z6⟩ := box7 HBX5.out
                       have HS6 := Lib.hid ((HS5.out.below hb).below (alloc_below w6 (.cells #[.int .i64 0, .int .i64 0, .int .i64 0, .int .i64 0, .slice none 0 0] 32)))
                       clear hb HS5 hz3 hy3 _t)
                    | (go_at_call 16; have _t := HS6; refine (rtake_no HS6.out.rf HIDX.out).mono ?_; rintro e w7 ⟨rfl, hb⟩
                       have hz3 := blk_below HBX5.out hb
                       have hy3 := blk_below HBY5.out hb
                       have hx3 := blk_below HBZ5.out hb
                       clear z0 z1 z2 z3 z4 z5 z6
                       obtain ⟨z0, z1, z2, z3, z4, z5, z6⟩ := box7 hz3
                       obtain ⟨y0, y1, y2, y3, y4⟩ := box5 hy3
                       obtain ⟨x0, x1, x2, x3, x4⟩ := box5 hx3
                       have HS7 := Lib.hid (HS6.out.below hb)
                       clear hb HS6 hz3 hy3 hx3 _t)
                    | (go_at_call 14; have _t := HS7; refine (HSM.out _).mono ?_; rintro e w8 ⟨rfl, hb⟩
                       have HS8 := Lib.hid (HS7.out.below hb)
                       clear hb HS7 _t))
                  go_meet
                  exact ⟨rfl, _, _, _, _, _, _, _, _, HSX.out, HS8.out⟩
              | some e0 =>
                as_aux_lemma =>
                  have HSX : Hid (s ≤ i + 1) := Lib.hid (by omega)
                  have hx64 : i64ok xn := HX64.out
                  obtain ⟨j, y, hj, hy, hyl, hmt⟩ := (HW1.out.mt.find HW1.out.net.net.ups).2 e0 hf
                  have HFD := Lib.hid (rfind_any HW1.out.rf xn)
                  rw [idxV_some hj] at HFD
                  have hj0 : ¬ (j : Int) < 0 := by omega
                  have hjw := (idxW_get hj).1
                  obtain ⟨nw, hnw⟩ : ∃ nw, ws.length = nw := ⟨_, rfl⟩
                  have hjn : (j : Int) < (nw : Int) := by omega
                  obtain ⟨hn1, hR⟩ := HW1.out.rf.nod y (List.mem_of_getElem? hy)
                  have hup : y.x.l.ns.length ≤ 1000000 := by have := up_len (by omega) (by omega) (Ltr.up hR); omega
                  obtain ⟨g0, hA, _, _⟩ := HW1.out.rf.row (cellsY_ne (fun e => by rw [e] at hy; simp at hy))
                  subst hA
                  obtain ⟨yn, ⟨⟨yk, yf, yt, yx, yns⟩, yA, ycap⟩⟩ := y
                  obtain ⟨en, el, eg, ec⟩ := e0
                  simp only at hyl hn1 hR hup
                  subst hyl
                  have HPZ := Lib.hid (HW1.out.below (alloc_below (wr.alloc (.cells #[.int .i64 2, .int .i64 xn, .int .i64 lk, .int .i64 lf, .int .i64 lt, .int .i64 lx, .slice xA N xcap] 34)) (.cells #[.int .i64 0, .int .i64 0, .int .i64 0, .int .i64 0, .slice none 0 0] 32)))
                  obtain ⟨_, d1, d2, d3, d4, d5⟩ := cellsY_at hy
                  obtain ⟨g1, hg1, _, hc⟩ := HPZ.out.rf.row (cellsY_ne (fun e => by rw [e] at hy; simp at hy))
                  injection hg1 with hg1
                  injection hg1 with hg1
                  subst hg1
                  have q1 := hc _ _ d1
                  have q2' := hc _ _ d2
                  have q3' := hc _ _ d3
                  have q4' := hc _ _ d4
                  have q5' := hc _ _ d5
                  obtain ⟨p0, _⟩ := box4_ HPZ.out.rf.box
                  rw [hnw] at p0
                  have HPL := Lib.hid (HW1.out.below (alloc_below (wr.alloc (.cells #[.int .i64 2, .int .i64 xn, .int .i64 lk, .int .i64 lf, .int .i64 lt, .int .i64 lx, .slice xA N xcap] 34)) (.cells #[.int .i64 yk, .int .i64 yf, .int .i64 yt, .int .i64 yx, .slice yA yns.length ycap] 32)))
                  have hsz0 : (wr.alloc (.cells #[.int .i64 2, .int .i64 xn, .int .i64 lk, .int .i64 lf, .int .i64 lt, .int .i64 lx, .slice xA N xcap] 34)).heap.size = wr.heap.size + 1 := by simp
                  have HBX2 := Lib.hid (blk_below HBX.out (alloc_below _ (.cells #[.int .i64 yk, .int .i64 yf, .int .i64 yt, .int .i64 yx, .slice yA yns.length ycap] 32)))
                  have HBZ2 := Lib.hid (heap_alloc_new (wr.alloc (.cells #[.int .i64 2, .int .i64 xn, .int .i64 lk, .int .i64 lf, .int .i64 lt, .int .i64 lx, .slice xA N xcap] 34)) (.cells #[.int .i64 yk, .int .i64 yf, .int .i64 yt, .int .i64 yx, .slice yA yns.length ycap] 32))
                  rw [hsz0] at HBZ2
                  have HLK := Lib.hid (lookN_yes HPL.out.net.net hx64 hf)
                  have HUP := Lib.hid hup
                  have HY := Lib.hid hy
                  have HJ := Lib.hid hj
                  have HMT := Lib.hid hmt
                  have HFN := Lib.hid hf
                  have HSM : Hid (∀ W B d, RdI W W.heap.size B yns → RdI W W.heap.size yA yns → Calls Try.prog 14 #[.agg #[.int .i64 yk, .int .i64 yf, .int .i64 yt, .int .i64 yx, .slice B yns.length d], .agg #[.int .i64 yk, .int .i64 yf, .int .i64 yt, .int .i64 yx, .slice yA yns.length ycap]] W (Ans (.bool true) W)) := Lib.hid fun W B d hA hB => by
                    have h := refSameL_any ⟨yk, yf, yt, yx, yns⟩ ⟨yk, yf, yt, yx, yns⟩ B yA yns.length yns.length d ycap rfl rfl HUP.out HUP.out W hA hB
                    rwa [sameL_self] at h
                  have HRY : Hid (∀ W {m L s t A c lo}, PlW w W w.heap.size (w.heap.size + 1) m L s t A c ws lo → RdI W W.heap.size yA yns) := Lib.hid fun W _ _ _ _ _ _ _ h => (h.rf.nod _ (List.mem_of_getElem? HY.out)).1.ints
                  have HLL : Hid ((dropW ws j).length + 1 = ws.length) := Lib.hid (by unfold dropW; rw [List.length_append, List.length_take, List.length_drop]; omega)
                  have HT9 : Hid (t < 900) := Lib.hid (by have := HW1.out.sum; omega)
                  clear hf hj hy hmt hn1 hR hup hc d1 d2 d3 d4 d5 hsz0 hnw hjw
                  go_wp2_with (first
                    | (go_at_call 12; refine HFD.out.mono ?_; rintro e wf ⟨rfl, rfl⟩)
                    | (go_at_call 13; go_loud (refine HLK.out.mono ?_); rintro e w3 ⟨A3, c3, rfl, ho, hb⟩
                       have hz3 := blk_below HBX2.out hb
                       have hy3 := blk_below HBZ2.out hb
                       have HBX3 := Lib.hid (blk_below hz3 (alloc_below w3 (.cells #[.int .i64 yk, .int .i64 yf, .int .i64 yt, .int .i64 yx, .slice A3 yns.length c3] 32)))
                       have HBZ3 := Lib.hid (blk_below hy3 (alloc_below w3 (.cells #[.int .i64 yk, .int .i64 yf, .int .i64 yt, .int .i64 yx, .slice A3 yns.length c3] 32)))
                       obtain ⟨z0, z1, z2, z3, z4, z5, z6⟩ := box7 HBX3.out
                       obtain ⟨y0, y1, y2, y3, y4⟩ := box5 HBZ3.out
                       have HL := Lib.hid ((HPL.out.below hb).below (alloc_below w3 (.cells #[.int .i64 yk, .int .i64 yf, .int .i64 yt, .int .i64 yx, .slice A3 yns.length c3] 32)))
                       have HO3 := Lib.hid (ho.below (alloc_below w3 (.cells #[.int .i64 yk, .int .i64 yf, .int .i64 yt, .int .i64 yx, .slice A3 yns.length c3] 32))).rd
                       clear hb ho HPL hz3 hy3)
                    | (go_at_call 14; have _t := HL; go_loud (refine (HSM.out _ _ _ HO3.out (HRY.out _ HL.out)).mono ?_); rintro e w5 ⟨rfl, hb⟩
                       have hz3 := blk_below HBX3.out hb
                       have hy3 := blk_below HBZ3.out hb
                       clear z0 z1 z2 z3 z4 z5 z6 y0 y1 y2 y3 y4
                       obtain ⟨z0, z1, z2, z3, z4, z5, z6⟩ := box7 hz3
                       obtain ⟨y0, y1, y2, y3, y4⟩ := box5 hy3
                       have HBX4 := Lib.hid hz3
                       have HBZ4 := Lib.hid hy3
                       have HS5 := Lib.hid (HL.out.below hb)
                       clear hb HL HO3 hz3 hy3 _t)
                    | (go_at_call 15; have _t := HS5; refine (take_yes HS5.out.net.net HX64.out HFN.out).mono ?_; rintro e w6 ⟨A6, c6, rfl, hk⟩
                       have hz3 := blk_keep HBX4.out z0 hk.2.2 HS5.out.net.net.notI
                       have hy3 := blk_keep HBZ4.out y0 hk.2.2 HS5.out.net.net.notI
                       clear z0 z1 z2 z3 z4 z5 z6 y0 y1 y2 y3 y4
                       have HBX5 := Lib.hid (blk_below hz3 (alloc_below w6 (.cells #[.int .i64 yk, .int .i64 yf, .int .i64 yt, .int .i64 yx, .slice A6 yns.length c6] 32)))
                       have HBY5 := Lib.hid (blk_below hy3 (alloc_below w6 (.cells #[.int .i64 yk, .int .i64 yf, .int .i64 yt, .int .i64 yx, .slice A6 yns.length c6] 32)))
                       have HBZ5 := Lib.hid (heap_alloc_new w6 (.cells #[.int .i64 yk, .int .i64 yf, .int .i64 yt, .int .i64 yx, .slice A6 yns.length c6] 32))
                       obtain ⟨z0, z1, z2, z3, z4, z5, z6⟩ := box7 HBX5.out
                       have HN6 := Lib.hid ((HS5.out.net.take hk).below (alloc_below w6 (.cells #[.int .i64 yk, .int .i64 yf, .int .i64 yt, .int .i64 yx, .slice A6 yns.length c6] 32)))
                       have HR6 := Lib.hid ((rf_keep HS5.out.net.net HS5.out.rf hk.2.2).below (alloc_below w6 (.cells #[.int .i64 yk, .int .i64 yf, .int .i64 yt, .int .i64 yx, .slice A6 yns.length c6] 32)))
                       have HO6 := Lib.hid (hk.1.below (alloc_below w6 (.cells #[.int .i64 yk, .int .i64 yf, .int .i64 yt, .int .i64 yx, .slice A6 yns.length c6] 32)))
                       have HB5 : Hid (w.heap.size + 1 < w5.heap.size) := Lib.hid HS5.out.rf.lt
                       clear hk HS5 hz3 hy3 _t)
                    | (go_at_call 16; have _t := HR6; refine (rtake_yes HR6.out HT9.out HJ.out HY.out).mono ?_; rintro e w7 ⟨⟨v9, rfl⟩, hp⟩
                       obtain ⟨A9, cap9, hr9, hO9⟩ := hp
                       have hnb : ∀ k, k = w.heap.size + 1 → NotI _ k := fun k hk => by rw [hk]; exact HR6.out.notI
                       have hz3 := blk_keep HBX5.out z0 hO9 hnb
                       have hy3 := blk_keep HBY5.out (box5 HBY5.out).1 hO9 hnb
                       have hx3 := blk_keep HBZ5.out (box5 HBZ5.out).1 hO9 hnb
                       clear z0 z1 z2 z3 z4 z5 z6
                       obtain ⟨z0, z1, z2, z3, z4, z5, z6⟩ := box7 hz3
                       obtain ⟨y0, y1, y2, y3, y4⟩ := box5 hy3
                       obtain ⟨x0, x1, x2, x3, x4⟩ := box5 hx3
                       have HO7 := Lib.hid (HO6.out.only hO9 (fun k hk e => by have := HB5.out; omega))
                       have HRY7 := Lib.hid ((HR6.out.nod _ (List.mem_of_getElem? HY.out)).1.only (intsZ_head _) hO9 hnb).ints
                       have HS7 : Hid (PlW w w7 w.heap.size (w.heap.size + 1) m (dropN L xn) s (t + 1) A9 cap9 (dropW ws j) lo) := Lib.hid ⟨net_keep HN6.out HR6.out hO9 (by omega), hr9, HMT.out, by have := HW1.out.sum; have := HLL.out; omega, by omega⟩
                       clear hr9 hO9 hnb HN6 HR6 HO6 hz3 hy3 hx3 _t)
                    | (go_at_call 14; have _t := HS7; refine (HSM.out _ _ _ HO7.out.rd HRY7.out).mono ?_; rintro e w8 ⟨rfl, hb⟩
                       have HS8 := Lib.hid (HS7.out.below hb)
                       clear hb HS7 HO7 HRY7 _t))
                  go_meet
                  exact ⟨rfl, _, _, _, _, _, _, _, _, HSX.out, HS8.out⟩
            · by_cases e5 : xk = 5
              · subst e5
                cases hf : findN L xn with
                | none =>
                  as_aux_lemma =>
                    have HSX : Hid (s ≤ i + 1) := Lib.hid (by omega)
                    have hx64 : i64ok xn := HX64.out
                    have hidx := (HW1.out.mt.find HW1.out.net.net.ups).1 hf
                    have HIDX := Lib.hid hidx
                    have HFN := Lib.hid hf
                    have HFD := Lib.hid (rfind_any HW1.out.rf xn)
                    rw [idxV_none hidx] at HFD
                    have HPZ := Lib.hid (HW1.out.below (alloc_below (wr.alloc (.cells #[.int .i64 5, .int .i64 xn, .int .i64 lk, .int .i64 lf, .int .i64 lt, .int .i64 lx, .slice xA N xcap] 34)) (.cells #[.int .i64 0, .int .i64 0, .int .i64 0, .int .i64 0, .slice none 0 0] 32)))
                    have hsz0 : (wr.alloc (.cells #[.int .i64 5, .int .i64 xn, .int .i64 lk, .int .i64 lf, .int .i64 lt, .int .i64 lx, .slice xA N xcap] 34)).heap.size = wr.heap.size + 1 := by simp
                    have HBX2 := Lib.hid (blk_below HBX.out (alloc_below _ (.cells #[.int .i64 0, .int .i64 0, .int .i64 0, .int .i64 0, .slice none 0 0] 32)))
                    have HBZ2 := Lib.hid (heap_alloc_new (wr.alloc (.cells #[.int .i64 5, .int .i64 xn, .int .i64 lk, .int .i64 lf, .int .i64 lt, .int .i64 lx, .slice xA N xcap] 34)) (.cells #[.int .i64 0, .int .i64 0, .int .i64 0, .int .i64 0, .slice none 0 0] 32))
                    rw [hsz0] at HBZ2
                    have HLK := Lib.hid (lookN_no HPZ.out.net.net hx64 hf)
                    have HSM : Hid (∀ W, Calls Try.prog 14 #[.agg #[.int .i64 0, .int .i64 0, .int .i64 0, .int .i64 0, .slice none 0 0], .agg #[.int .i64 0, .int .i64 0, .int .i64 0, .int .i64 0, .slice none 0 0]] W (Ans (.bool true) W)) := Lib.hid fun W => by
                      have h := refSameL_any ⟨0, 0, 0, 0, []⟩ ⟨0, 0, 0, 0, []⟩ none none 0 0 0 0 rfl rfl (by omega) (by omega) W (RdI.nil _ _ _) (RdI.nil _ _ _)
                      rwa [sameL_self] at h
                    unfold zeroL at HLK
                    clear hf hidx hsz0
                    go_wp2_with (first
                      | (go_at_call 12; refine HFD.out.mono ?_; rintro e wf ⟨rfl, rfl⟩)
                      | (go_at_call 13; refine HLK.out.mono ?_; rintro e w3 ⟨rfl, hb⟩
                         have hz3 := blk_below HBX2.out hb
                         have hy3 := blk_below HBZ2.out hb
                         have HBX3 := Lib.hid (blk_below hz3 (alloc_below w3 (.cells #[.int .i64 0, .int .i64 0, .int .i64 0, .int .i64 0, .slice none 0 0] 32)))
                         have HBZ3 := Lib.hid (blk_below hy3 (alloc_below w3 (.cells #[.int .i64 0, .int .i64 0, .int .i64 0, .int .i64 0, .slice none 0 0] 32)))
                         obtain ⟨z0, z1, z2, z3, z4, z5, z6⟩ := box7 HBX3.out
                         obtain ⟨y0, y1, y2, y3, y4⟩ := box5 HBZ3.out
                         have HL := Lib.hid ((HPZ.out.below hb).below (alloc_below w3 (.cells #[.int .i64 0, .int .i64 0, .int .i64 0, .int .i64 0, .slice none 0 0] 32)))
                         clear hb HPZ hz3 hy3)
                      | (go_at_call 14; have _t := HL; refine (HSM.out _).mono ?_; rintro e w5 ⟨rfl, hb⟩
                         have hz3 := blk_below HBX3.out hb
                         have hy3 := blk_below HBZ3.out hb
                         clear z0 z1 z2 z3 z4 z5 z6 y0 y1 y2 y3 y4
                         obtain ⟨z0, z1, z2, z3, z4, z5, z6⟩ := box7 hz3
                         obtain ⟨y0, y1, y2, y3, y4⟩ := box5 hy3
                         have HBX4 := Lib.hid hz3
                         have HBZ4 := Lib.hid hy3
                         have HS5 := Lib.hid (HL.out.below hb)
                         clear hb HL hz3 hy3 _t))
                    go_meet
                    exact ⟨rfl, _, _, _, _, _, _, _, _, HSX.out, HS5.out⟩
                | some e0 =>
                  as_aux_lemma =>
                    have HSX : Hid (s ≤ i + 1) := Lib.hid (by omega)
                    have hx64 : i64ok xn := HX64.out
                    obtain ⟨j, y, hj, hy, hyl, hmt⟩ := (HW1.out.mt.find HW1.out.net.net.ups).2 e0 hf
                    have HFD := Lib.hid (rfind_any HW1.out.rf xn)
                    rw [idxV_some hj] at HFD
                    have hj0 : ¬ (j : Int) < 0 := by omega
                    have hjw := (idxW_get hj).1
                    obtain ⟨nw, hnw⟩ : ∃ nw, ws.length = nw := ⟨_, rfl⟩
                    have hjn : (j : Int) < (nw : Int) := by omega
                    obtain ⟨hn1, hR⟩ := HW1.out.rf.nod y (List.mem_of_getElem? hy)
                    have hup : y.x.l.ns.length ≤ 1000000 := by have := up_len (by omega) (by omega) (Ltr.up hR); omega
                    obtain ⟨g0, hA, _, _⟩ := HW1.out.rf.row (cellsY_ne (fun e => by rw [e] at hy; simp at hy))
                    subst hA
                    obtain ⟨yn, ⟨⟨yk, yf, yt, yx, yns⟩, yA, ycap⟩⟩ := y
                    obtain ⟨en, el, eg, ec⟩ := e0
                    simp only at hyl hn1 hR hup
                    subst hyl
                    have HPZ := Lib.hid (HW1.out.below (alloc_below (wr.alloc (.cells #[.int .i64 5, .int .i64 xn, .int .i64 lk, .int .i64 lf, .int .i64 lt, .int .i64 lx, .slice xA N xcap] 34)) (.cells #[.int .i64 0, .int .i64 0, .int .i64 0, .int .i64 0, .slice none 0 0] 32)))
                    obtain ⟨_, d1, d2, d3, d4, d5⟩ := cellsY_at hy
                    obtain ⟨g1, hg1, _, hc⟩ := HPZ.out.rf.row (cellsY_ne (fun e => by rw [e] at hy; simp at hy))
                    injection hg1 with hg1
                    injection hg1 with hg1
                    subst hg1
                    have q1 := hc _ _ d1
                    have q2' := hc _ _ d2
                    have q3' := hc _ _ d3
                    have q4' := hc _ _ d4
                    have q5' := hc _ _ d5
                    obtain ⟨p0, _⟩ := box4_ HPZ.out.rf.box
                    rw [hnw] at p0
                    have HPL := Lib.hid (HW1.out.below (alloc_below (wr.alloc (.cells #[.int .i64 5, .int .i64 xn, .int .i64 lk, .int .i64 lf, .int .i64 lt, .int .i64 lx, .slice xA N xcap] 34)) (.cells #[.int .i64 yk, .int .i64 yf, .int .i64 yt, .int .i64 yx, .slice yA yns.length ycap] 32)))
                    have hsz0 : (wr.alloc (.cells #[.int .i64 5, .int .i64 xn, .int .i64 lk, .int .i64 lf, .int .i64 lt, .int .i64 lx, .slice xA N xcap] 34)).heap.size = wr.heap.size + 1 := by simp
                    have HBX2 := Lib.hid (blk_below HBX.out (alloc_below _ (.cells #[.int .i64 yk, .int .i64 yf, .int .i64 yt, .int .i64 yx, .slice yA yns.length ycap] 32)))
                    have HBZ2 := Lib.hid (heap_alloc_new (wr.alloc (.cells #[.int .i64 5, .int .i64 xn, .int .i64 lk, .int .i64 lf, .int .i64 lt, .int .i64 lx, .slice xA N xcap] 34)) (.cells #[.int .i64 yk, .int .i64 yf, .int .i64 yt, .int .i64 yx, .slice yA yns.length ycap] 32))
                    rw [hsz0] at HBZ2
                    have HLK := Lib.hid (lookN_yes HPL.out.net.net hx64 hf)
                    have HUP := Lib.hid hup
                    have HY := Lib.hid hy
                    have HJ := Lib.hid hj
                    have HMT := Lib.hid hmt
                    have HFN := Lib.hid hf
                    have HSM : Hid (∀ W B d, RdI W W.heap.size B yns → RdI W W.heap.size yA yns → Calls Try.prog 14 #[.agg #[.int .i64 yk, .int .i64 yf, .int .i64 yt, .int .i64 yx, .slice B yns.length d], .agg #[.int .i64 yk, .int .i64 yf, .int .i64 yt, .int .i64 yx, .slice yA yns.length ycap]] W (Ans (.bool true) W)) := Lib.hid fun W B d hA hB => by
                      have h := refSameL_any ⟨yk, yf, yt, yx, yns⟩ ⟨yk, yf, yt, yx, yns⟩ B yA yns.length yns.length d ycap rfl rfl HUP.out HUP.out W hA hB
                      rwa [sameL_self] at h
                    have HRY : Hid (∀ W {m L s t A c lo}, PlW w W w.heap.size (w.heap.size + 1) m L s t A c ws lo → RdI W W.heap.size yA yns) := Lib.hid fun W _ _ _ _ _ _ _ h => (h.rf.nod _ (List.mem_of_getElem? HY.out)).1.ints
                    clear hf hj hy hmt hn1 hR hup hc d1 d2 d3 d4 d5 hsz0 hnw hjw
                    go_wp2_with (first
                      | (go_at_call 12; refine HFD.out.mono ?_; rintro e wf ⟨rfl, rfl⟩)
                      | (go_at_call 13; go_loud (refine HLK.out.mono ?_); rintro e w3 ⟨A3, c3, rfl, ho, hb⟩
                         have hz3 := blk_below HBX2.out hb
                         have hy3 := blk_below HBZ2.out hb
                         have HBX3 := Lib.hid (blk_below hz3 (alloc_below w3 (.cells #[.int .i64 yk, .int .i64 yf, .int .i64 yt, .int .i64 yx, .slice A3 yns.length c3] 32)))
                         have HBZ3 := Lib.hid (blk_below hy3 (alloc_below w3 (.cells #[.int .i64 yk, .int .i64 yf, .int .i64 yt, .int .i64 yx, .slice A3 yns.length c3] 32)))
                         obtain ⟨z0, z1, z2, z3, z4, z5, z6⟩ := box7 HBX3.out
                         obtain ⟨y0, y1, y2, y3, y4⟩ := box5 HBZ3.out
                         have HL := Lib.hid ((HPL.out.below hb).below (alloc_below w3 (.cells #[.int .i64 yk, .int .i64 yf, .int .i64 yt, .int .i64 yx, .slice A3 yns.length c3] 32)))
                         have HO3 := Lib.hid (ho.below (alloc_below w3 (.cells #[.int .i64 yk, .int .i64 yf, .int .i64 yt, .int .i64 yx, .slice A3 yns.length c3] 32))).rd
                         clear hb ho HPL hz3 hy3)
                      | (go_at_call 14; have _t := HL; go_loud (refine (HSM.out _ _ _ HO3.out (HRY.out _ HL.out)).mono ?_); rintro e w5 ⟨rfl, hb⟩
                         have hz3 := blk_below HBX3.out hb
                         have hy3 := blk_below HBZ3.out hb
                         clear z0 z1 z2 z3 z4 z5 z6 y0 y1 y2 y3 y4
                         obtain ⟨z0, z1, z2, z3, z4, z5, z6⟩ := box7 hz3
                         obtain ⟨y0, y1, y2, y3, y4⟩ := box5 hy3
                         have HBX4 := Lib.hid hz3
                         have HBZ4 := Lib.hid hy3
                         have HS5 := Lib.hid (HL.out.below hb)
                         clear hb HL HO3 hz3 hy3 _t))
                    go_meet
                    exact ⟨rfl, _, _, _, _, _, _, _, _, HSX.out, HS5.out⟩
              · by_cases e3 : xk = 3
                · subst e3
                  cases hf : findN L xn with
                  | none =>
                    as_aux_lemma =>
                      have HSX : Hid (s ≤ i + 1) := Lib.hid (by omega)
                      have hx64 : i64ok xn := HX64.out
                      have HS := Lib.hid (twice_no HW1.out.net.net hx64 hf)
                      have HS2 := Lib.hid (rtwice_no HW1.out.rf ((HW1.out.mt.find HW1.out.net.net.ups).1 hf))
                      have HE := HW1
                      clear hf
                      go_wp2_with (first
                        | (go_at_call 17; refine HS.out.mono ?_; rintro e w2 ⟨rfl, rfl⟩)
                        | (go_at_call 18; refine HS2.out.mono ?_; rintro e w3 ⟨rfl, rfl⟩))
                      go_meet
                      exact ⟨rfl, _, _, _, _, _, _, _, _, HSX.out, HE.out⟩
                  | some e0 =>
                    as_aux_lemma =>
                      have HSX : Hid (s + 1 ≤ i + 1) := Lib.hid (by omega)
                      have hx64 : i64ok xn := HX64.out
                      obtain ⟨j, y, hj, hy, hyl, _⟩ := (HW1.out.mt.find HW1.out.net.net.ups).2 e0 hf
                      have HS := Lib.hid (twice_yes HW1.out.net.net (by have := HW1.out.net.net.sum; omega) (by omega) hx64 hf)
                      have HJ := Lib.hid hj
                      have HYY := Lib.hid hy
                      have HYL := Lib.hid hyl
                      have HLEN : Hid (ws.length < 900) := Lib.hid (by have := HW1.out.sum; omega)
                      unfold PutT at HS
                      clear hf hj hy hyl
                      go_wp2_with (first
                        | (go_at_call 17; refine HS.out.mono ?_; rintro e w2 ⟨rfl, hp⟩
                           obtain ⟨m2, g2, c2, h2, hO2, hm2⟩ := id hp
                           have hrf2 := rf_keep HW1.out.net.net HW1.out.rf hO2
                           obtain ⟨z0, z1, z2, z3, z4, z5, z6⟩ := box7 (blk_keep HBX.out HBI.out hO2 HW1.out.net.net.notI)
                           have HN2 : Hid (NetW w w2 w.heap.size m2 (L ++ [⟨s, e0.l, g2, c2⟩]) (s + 1) t) := Lib.hid ⟨h2, HW1.out.net.bel.trans (hO2.below HW1.out.net.bel.size HW1.out.net.nk), HW1.out.net.gp, fun q hq => by
                             rcases hm2 with h3 | ⟨_, q', h4, h5⟩
                             · exact HW1.out.net.gm q (by rw [← h3]; exact hq)
                             · rw [h4] at hq
                               injection hq with hq
                               have := HW1.out.net.bel.size
                               omega⟩
                           have HR2 := Lib.hid hrf2
                           clear hp h2 hO2 hm2 hrf2)
                        | (go_at_call 18; refine (rtwice_yes HR2.out HLEN.out (by omega) HJ.out HYY.out).mono ?_; rintro e w3 ⟨rfl, hp⟩
                           obtain ⟨A9, cap9, A3, c3, hr9, hO9, _, _⟩ := hp
                           have HE : Hid (PlW w w3 w.heap.size (w.heap.size + 1) m2 (L ++ [⟨s, e0.l, g2, c2⟩]) (s + 1) t A9 cap9 (ws ++ [⟨s, ⟨y.x.l, A3, c3⟩⟩]) lo) := Lib.hid ⟨net_keep HN2.out HR2.out hO9 (by omega), hr9, by have := HW1.out.mt.snoc s y.x.l g2 c2 A3 c3; rwa [HYL.out] at this ⊢, by have := HW1.out.sum; rw [List.length_append, List.length_cons, List.length_nil]; omega, by omega⟩
                           clear hr9 hO9 HN2 HR2))
                      go_meet
                      exact ⟨rfl, _, _, _, _, _, _, _, _, HSX.out, HE.out⟩
                · by_cases e4 : xk = 4
                  · subst e4
                    cases hf : findN L xn with
                    | none =>
                      as_aux_lemma =>
                        have HSX : Hid (s ≤ i + 1) := Lib.hid (by omega)
                        have hx64 : i64ok xn := HX64.out
                        have hidx := (HW1.out.mt.find HW1.out.net.net.ups).1 hf
                        have HD := Lib.hid (HW1.out.below (Below.refl _ _).drew)
                        have HIDX := Lib.hid hidx
                        have HFN := Lib.hid hf
                        clear hf hidx
                        go_wp2_with fail
                        go_region_law (first
                          | (go_simp; go_at_call 19; refine (lose_no HD.out.net.net hx64 HFN.out).mono ?_; rintro e w2 ⟨rfl, rfl⟩)
                          | (go_simp; go_at_call 20; refine (rlose_no HD.out.rf HIDX.out).mono ?_; rintro e w3 ⟨rfl, rfl⟩))
                        all_goals
                          go_wp2_with fail
                          go_meet
                          exact ⟨rfl, _, _, _, _, _, _, _, _, HSX.out, HD.out⟩
                    | some e0 =>
                      as_aux_lemma =>
                        have HSX : Hid (s ≤ i + 1) := Lib.hid (by omega)
                        have hx64 : i64ok xn := HX64.out
                        obtain ⟨j, y, hj, _, _, hmt⟩ := (HW1.out.mt.find HW1.out.net.net.ups).2 e0 hf
                        have HD := Lib.hid (HW1.out.below (Below.refl _ _).drew)
                        have HFN := Lib.hid hf
                        have HJ := Lib.hid hj
                        have HMT := Lib.hid hmt
                        have HLO : Hid (lo < 900) := Lib.hid (by have := HW1.out.sum; omega)
                        have HLL : Hid ((dropW ws j).length + 1 = ws.length) := Lib.hid (by have := (idxW_get hj).1; unfold dropW; rw [List.length_append, List.length_take, List.length_drop]; omega)
                        clear hf hj hmt
                        go_wp2_with fail
                        go_region_law (first
                          | (go_simp; go_at_call 19; have _t := HD; refine (lose_yes HD.out.net.net hx64 HFN.out).mono ?_; rintro e w2 ⟨rfl, hp⟩
                             obtain ⟨z0, z1, z2, z3, z4, z5, z6⟩ := box7 (blk_keep HBXD.out HBID.out hp.2 HD.out.net.net.notI)
                             have HN2 := Lib.hid (HD.out.net.lose hp)
                             have HR2 := Lib.hid (rf_keep HD.out.net.net HD.out.rf hp.2)
                             clear hp HD _t)
                          | (go_simp; go_at_call 20; have _t := HD; refine (rlose_yes HD.out.rf HLO.out HJ.out).mono ?_; rintro e w2 ⟨rfl, hp⟩
                             obtain ⟨A2, cap2, hr2, hO2⟩ := hp
                             obtain ⟨z0, z1, z2, z3, z4, z5, z6⟩ := box7 (blk_keep HBXD.out HBID.out hO2 HD.out.notB)
                             have HN3 := Lib.hid (net_keep HD.out.net HD.out.rf hO2 (by omega))
                             have HR3 := Lib.hid hr2
                             clear hr2 hO2 HD _t)
                          | (go_simp; go_at_call 20; have _t := HN2; refine (rlose_yes HR2.out HLO.out HJ.out).mono ?_; rintro e w3 ⟨rfl, hp⟩
                             obtain ⟨A9, cap9, hr9, hO9⟩ := hp
                             have HE : Hid (PlW w w3 w.heap.size (w.heap.size + 1) m (dropN L xn) s t A9 cap9 (dropW ws j) (lo + 1)) := Lib.hid ⟨net_keep HN2.out HR2.out hO9 (by omega), hr9, HMT.out, by have := HW1.out.sum; have := HLL.out; omega, by omega⟩
                             clear hr9 hO9 HN2 HR2 _t)
                          | (go_simp; go_at_call 19; have _t := HN3; refine (lose_yes HN3.out.net hx64 HFN.out).mono ?_; rintro e w3 ⟨rfl, hp⟩
                             have HE : Hid (PlW w w3 w.heap.size (w.heap.size + 1) m (dropN L xn) s t A2 cap2 (dropW ws j) (lo + 1)) := Lib.hid ⟨HN3.out.lose hp, rf_keep HN3.out.net HR3.out hp.2, HMT.out, by have := HW1.out.sum; have := HLL.out; omega, by omega⟩
                             clear hp HN3 HR3 _t))
                        all_goals
                          go_wp2_with fail
                          go_meet
                          exact ⟨rfl, _, _, _, _, _, _, _, _, HSX.out, HE.out⟩
                  · have n1 : (xk == 1) = false := by simpa using e1
                    have n2 : (xk == 2) = false := by simpa using e2
                    have n3 : (xk == 3) = false := by simpa using e3
                    have n4 : (xk == 4) = false := by simpa using e4
                    have n5 : (xk == 5) = false := by simpa using e5
                    clear e1 e2 e3 e4 e5
                    as_aux_lemma =>
                      have HSX : Hid (s ≤ i + 1) := Lib.hid (by omega)
                      go_wp2_with fail
                      go_meet
                      exact ⟨rfl, _, _, _, _, _, _, _, _, HSX.out, HW1.out⟩
        case rest =>
          obtain ⟨rfl, s', t', lo', cap', m', L', A', ws', hs', hE⟩ := hcut
          have HSX := Lib.hid hs'
          have HE := Lib.hid hE
          clear hs' hE HW1 HBX HBI HBXD HBID
          obtain ⟨f0, f1, f2, f3⟩ := box4_ HE.out.rf.box
          clear f0 f1 f2 f3
          have hnode := HND.out
          as_aux_lemma =>
            go_wp2_with (first
              | (go_at_call 21; have _t := HE; refine (told_r HE.out.net.net).mono ?_; rintro e wt ⟨r, Z, hZ, hr, rfl, hb⟩
                 have hrl := HE.out.lost hZ.out hr
                 subst hrl
                 have HT := Lib.hid (HE.out.below hb)
                 clear hr hb hZ _t)
              | (go_at_call 23; have _t := HT; refine (numbers_any HT.out.net.net).mono ?_; rintro e wn ⟨vn, rfl, hn, hb⟩
                 obtain ⟨An, cn, rfl, _⟩ := hn.2
                 have HNm := Lib.hid hn
                 have HU := Lib.hid (HT.out.below hb)
                 clear hn hb HT _t)
              | (go_at_call 24; have _t := HU; refine (rnumbers_any HU.out.rf (-1)).mono ?_; rintro e wm ⟨vm, rfl, hn, hb⟩
                 rw [HU.out.mt.nums] at hn
                 obtain ⟨Am, cm, rfl, _⟩ := hn.2
                 have HN2 := Lib.hid (HNm.out.below hb)
                 have HM2 := Lib.hid hn
                 have HV := Lib.hid (HU.out.below hb)
                 clear hn hb HU HNm _t)
              | (go_at_call 22; have _t := HV; refine (rsame_any HN2.out.rd HM2.out.rd rfl rfl (by rw [nums_len]; have := HV.out.net.net.room; omega) (by rw [nums_len]; have := HV.out.net.net.room; omega)).mono ?_; rintro e ws' ⟨rfl, nd, hd⟩
                 have hbs : Below wm.heap.size wm ws' := by rw [hd]; exact drewN_below _ _
                 have HF := Lib.hid (HV.out.below hbs)
                 obtain ⟨f0, f1, f2, f3⟩ := box4_ HF.out.rf.box
                 clear hd hbs HV HN2 HM2 _t)
              | (go_at_call 25; have _t := HF; refine (to_any HF.out.net.net node).mono ?_; rintro e wo ⟨vo, rfl, hn, hb⟩
                 obtain ⟨Ao, co, rfl, _⟩ := hn.2
                 have HO3 := Lib.hid hn
                 have HU3 := Lib.hid (HF.out.below hb)
                 clear hn hb HF f0 f1 f2 f3 _t)
              | (go_at_call 24; have _t := HU3; refine (rnumbers_any HU3.out.rf node).mono ?_; rintro e wq ⟨vq, rfl, hn, hb⟩
                 rw [HU3.out.mt.to (show ¬ node < 0 by have := HND.out; omega)] at hn
                 obtain ⟨Aq, cq, rfl, _⟩ := hn.2
                 have HN4 := Lib.hid (HO3.out.below hb)
                 have HM4 := Lib.hid hn
                 have HV4 := Lib.hid (HU3.out.below hb)
                 clear hn hb HU3 HO3 _t)
              | (go_at_call 22; have _t := HV4; refine (rsame_any HN4.out.rd HM4.out.rd rfl rfl (by have := toN_le' HV4.out.net.net node; omega) (by have := toN_le' HV4.out.net.net node; omega)).mono ?_; rintro e wz ⟨rfl, nd4, hd⟩
                 have hbs : Below wq.heap.size wq wz := by rw [hd]; exact drewN_below _ _
                 have HF := Lib.hid (HV4.out.below hbs)
                 obtain ⟨f0, f1, f2, f3⟩ := box4_ HF.out.rf.box
                 clear hd hbs HV4 HN4 HM4 _t))
            go_roundw
            case rel => first | exact HZ.out _ _ _ _ _ _ _ _ _ _ HSX.out (by go_num) HF.out | ((repeat apply Exists.intro); exact ⟨HZ.out _ _ _ _ _ _ _ _ _ _ HSX.out (by go_num) HF.out, rfl⟩)
            case measure => simp [intOf]; omega
    · have hx2 : (¬ (i : Int) < (n : Int)) ∨ ((i : Int) < (n : Int) ∧ ¬ (i : Int) < 80) := by omega
      have HW := Lib.hid hW.net
      clear hx hW hi1 hi2 hs1
      rcases hx2 with hx3 | ⟨hx3, hx4⟩
      all_goals
        go_wp2_with (go_at_call 26; refine (aliveN_any _).mono ?_; rintro e wz ⟨rfl, hb⟩
                     have HE := Lib.hid (HW.out.below hb).bel
                     clear hb)
        go_ret
        exact ⟨rfl, HE.out⟩
theorem netPlays_law (l : List ActN) (A : Option Addr) (cap : Nat) (node : Int) (w : World) (hm : l.length ≤ maxLen) (hr : RdActs w w.heap.size A l) (hok : ∀ x ∈ l, x.ok w w.heap.size) :
    Calls Try.prog 3 #[.slice A l.length cap, .int .i64 node] w (Ans (.bool true) w) := by
  by_cases h : node < 0
  · exact netPlays_neg l A cap node h w hm hr hok
  · exact netPlays_pos l A cap node h w hm hr hok
end Go.Proofs.Ythdhifnafgidaaa
